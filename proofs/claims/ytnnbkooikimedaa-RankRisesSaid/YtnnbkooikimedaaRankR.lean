/-
  The law of layer 16 on ranks that rise: walked, for any flows and acts. No condition.
-/
import Derived.Test.YtnnbkooikimedaaRankU
import Derived.Maps.AppendAt
import Derived.Deep.CutBlock
import Derived.Deep.DeepCutAuto
namespace Go.Proofs.Ytnnbkooikimedaa
set_option linter.unusedVariables false
set_option linter.unusedSimpArgs false
open Go.ChangeShapes Go.WideShapes Go.ChangeAt Go.RowKit
attribute [local go_sem] alloc_drewN setCell_drewN

set_option maxRecDepth 100000 in
set_option maxHeartbeats 8000000 in
theorem walk_rankRises {w : World} (fk : Int) (k0 : 0 ≤ fk) (k1 : fk ≤ 255) (a1 : Option Addr) (n1 c1 : Nat) (fs : List Fl) (hr : RowFl w a1 n1 fs) (hc1 : n1 ≤ c1) (a2 : Option Addr) (n2 c2 : Nat) (zs : List Act16) (h2 : RowA16 w a2 n2 zs) (hc2 : n2 ≤ c2) :
    Calls Try.prog 10 #[.int .u8 fk, .slice a1 n1 c1, .slice a2 n2 c2] w fun e w' => e = .returned (.bool true) ∧ Below w.heap.size w w' := by
  obtain ⟨i0, hi0, hz0, hz1, hz2⟩ := info_parts infoU
  obtain ⟨j0, hj0, hy0, hy1, hy2⟩ := info_parts infoB16
  have LV := Lib.hid (fun W => lives16 W)
  have HR := Lib.hid hr; have H2 := Lib.hid h2
  clear hr h2
  by_cases hbig : (200 : Int) < n2
  · go_enter Try.func10, Try.ntmps10
    go_wp2_with fail
    refine (LV.out _).mono ?_
    rintro e w9 ⟨rfl, b9⟩
    go_wp2
    go_ret
    exact ⟨rfl, b9⟩
  · obtain ⟨k, hk⟩ : ∃ k, fk % 3 + 1 = k := ⟨_, rfl⟩
    have kk0 : 1 ≤ k := by omega
    have kk1 : k ≤ 3 := by omega
    have wk : IntKind.i64.wrap (fk % 3 + 1) = k := by rw [IntKind.wrap_i64]; omega
    go_enter Try.func10, Try.ntmps10
    by_cases hn : n1 < 1 ∨ 64 < n1
    · have NO := Lib.hid (fun W => rnew_count k kk0 kk1 a1 n1 c1 hn W)
      go_wp2_with fail
      refine (NO.out _).mono ?_
      rintro e w2 ⟨rfl, rfl⟩
      go_wp2_with fail
      refine (LV.out _).mono ?_
      rintro e w9 ⟨rfl, b9⟩
      go_wp2
      go_ret
      exact ⟨rfl, b9⟩
    · have NA := Lib.hid (rnew_any k kk0 kk1 a1 n1 c1 fs HR.out (by omega) (by omega))
      go_wp2_with fail
      refine NA.out.mono ?_
      rintro e w1 ⟨v, code, rfl, hp, hb⟩
      rcases hp with ⟨hd, rfl, rfl, va, h0⟩ | ⟨hd, rfl, rfl⟩
      · have HA := Lib.hid h0
        have BA := Lib.hid hb
        have n1a : 1 ≤ n1 := by omega
        have n1b : n1 ≤ 64 := by omega
        clear hd h0 hb NA
        go_wp2_with (first
          | (at_make; refine wpList_make_full _ rfl _ _ 125 rfl w.heap.size 4 j0 (.bool false) 1 Try.underlying125 hj0 hy0 hy1 _ _ _ _ n1 rfl rfl rfl rfl (by rw [hy2]; omega) (by unfold maxLen; omega) (Nat.le_trans BA.out.size HG2.out.size) ?_; intro W3 ho3 hg3; have HO3 := Lib.hid ho3; have HG3 := Lib.hid hg3; clear ho3 hg3)
          | (at_make; refine wpList_make_full _ rfl _ _ 25 rfl w.heap.size 22 i0 (.int .u64 0) 1 Try.underlying25 hi0 hz0 hz1 _ _ _ _ n1 rfl rfl rfl rfl (by rw [hz2]; omega) (by unfold maxLen; omega) BA.out.size ?_; intro W2 ho2 hg2; have HO2 := Lib.hid ho2; have HG2 := Lib.hid hg2; clear ho2 hg2))
        have M0 : Hid (Mem16 w W3 w.heap.size w1.heap.size W2.heap.size k 0 va n1 (fs.map (initR k)) (List.replicate n1 0) (List.replicate n1 false)) := by
          have hb2 : Below w1.heap.size w1 W2 := (Below.refl _ _).grown HG2.out (Nat.le_refl _) (by simp)
          have hb3 : Below W2.heap.size W2 W3 := (Below.refl _ _).grown HG3.out (Nat.le_refl _) (by simp)
          have e2 : (madeCells (Value.int .u64 0).cells (n1 * 1)).toList = (List.replicate n1 0).map (Value.int .u64) := by
            simp [madeCells, Value.cells, List.map_const', List.eq_replicate_iff]
            intro a _; rw [Nat.mod_one]; rfl
          have e3 : (madeCells (Value.bool false).cells (n1 * 1)).toList = (List.replicate n1 false).map Value.bool := by
            simp [madeCells, Value.cells, List.map_const', List.eq_replicate_iff]
            intro a _; rw [Nat.mod_one]; rfl
          have o2 := HO2.out
          have o3 := HO3.out
          rw [e2] at o2
          rw [e3] at o3
          have s1 : w1.heap.size < W2.heap.size := (World.ownsRow.lt o2 _ rfl).2
          have g2 := HA.out.below hb2
          refine Lib.hid ⟨g2.below hb3, (BA.out.trans (hb2.mono BA.out.size)).trans (hb3.mono (Nat.le_trans BA.out.size hb2.size)), own_keep o2 (fun j hj => hb3.block j ?_), o3, List.length_replicate .., List.length_replicate .., fun hx => ?_, fun hx => ?_, Nat.le_refl _, by omega⟩
          · obtain rfl : w1.heap.size = j := by injection hj
            exact s1
          · have := (HA.out.inlt hx).2; omega
          · have := (g2.inlt hx).2; omega
        have FL := Lib.hid HR.out.1
        have I0 : Hid (InvR k 0 (fs.map (initR k)) (List.replicate n1 0) (List.replicate n1 false)) := Lib.hid (fun j hj hm => by
          rw [List.getD_eq_getElem?_getD, List.getElem?_replicate, if_pos (by rw [List.length_map, FL.out] at hj; exact hj)] at hm
          cases hm)
        have D0 : Hid (((fs.map (initR k)).length = n1 ∧ ∀ j, j < n1 → ((fs.map (initR k)).getD j Rf.nil).id = (fs.getD j Fl.nil).id)) := Lib.hid ⟨by rw [List.length_map]; exact FL.out, fun j hj => by
          have := (Twin16.start k fs 0).2.2.1 j (by rw [FL.out]; exact hj)
          exact this.1⟩
        clear HO2 HO3 HG2 HG3 HA BA
        go_wp2
        generalize w1.heap.size = L at *
        generalize W2.heap.size = M at *
        go_loopw [12, 13, 48] (fun nv vv z wr => ∃ (i : Nat) (now vs v : Int) (es : List Rf) (ls : List Int) (ms : List Bool), i ≤ n2 ∧ nv = .int .u64 now ∧ vv = .int .u64 vs ∧ z = .int .i64 i ∧ 0 ≤ now ∧ now ≤ i * 4294967295 ∧ (k = 1 → v = vs) ∧ 0 ≤ vs ∧ vs ≤ 18446744073709551615 ∧ Mem16 w wr w.heap.size L M k v va n1 es ls ms ∧ InvR k now es ls ms ∧ (es.length = n1 ∧ ∀ j, j < n1 → (es.getD j Rf.nil).id = (fs.getD j Fl.nil).id)) (fun _ _ z _ => n2 - (intOf z).toNat)
        case atStart => exact ⟨0, 0, 0, 0, _, _, _, Nat.zero_le _, rfl, rfl, rfl, by omega, by omega, fun _ => rfl, by omega, by omega, M0.out, I0.out, D0.out⟩
        case round =>
          obtain ⟨i, now, vs, v, es, ls, ms, hi, rfl, rfl, rfl, nw0, nw1, hv, vs0, vs1, hm, hinv, hids⟩ := hrel
          have HM := Lib.hid hm; have HI := Lib.hid hinv; have HD := Lib.hid hids; have HV := Lib.hid hv
          clear M0 I0 D0
          by_cases hlt : i < n2
          · obtain ⟨b, off, rfl, hblt, d0, d1, d2, d3, d4⟩ := H2.out.atR hm.b i hlt
            obtain ⟨⟨y8, y9⟩, ⟨x0, x1⟩, ⟨y0, y1⟩, ⟨l0, l1⟩, -⟩ := H2.out.okR i hlt
            have z0 : (0 : Int) ≤ i := by omega
            have z1 : (i : Int) < n2 := by omega
            obtain ⟨x, hx⟩ : ∃ x, zs.getD i Act16.nil = x := ⟨_, rfl⟩
            rw [hx] at d0 d1 d2 d3 d4 y8 y9 x0 x1 y0 y1 l0 l1
            clear hx
            obtain ⟨xk, xi, xn, xl, xa, xm, xc, xz⟩ := x
            dsimp only at d0 d1 d2 d3 d4 y8 y9 x0 x1 y0 y1 l0 l1
            obtain ⟨nw, hnw⟩ : ∃ nw, now + xl = nw := ⟨_, rfl⟩
            have v0 : 0 ≤ nw := by omega
            have v1 : nw ≤ ((i + 1 : Nat) : Int) * 4294967295 := by omega
            have v2 : nw ≤ 18446744073709551615 := by omega
            have v3 : IntKind.u64.wrap (now + xl) = nw := by rw [IntKind.wrap_u64]; omega
            have HI2 := Lib.hid (hinv.later (show now ≤ nw by omega))
            obtain ⟨F, hF⟩ : ∃ F : Obj, F = .cells #[.int .u8 xk, .int .u32 xi, .int .u64 xn, .int .u32 xl, .slice xa xm xc] 112 := ⟨_, rfl⟩
            have BF := Lib.hid ((Below.refl _ wr).alloc (Nat.le_refl _) F)
            have HM1 := Lib.hid (HM.out.below BF.out)
            have gg := cells5 wr (.int .u8 xk) (.int .u32 xi) (.int .u64 xn) (.int .u32 xl) (.slice xa xm xc) 112
            rw [← hF] at gg
            have NG := Lib.hid (fun h => Nat.lt_irrefl _ ((HM.out.ra.inlt (j := wr.heap.size) h).2))
            have SW := Lib.hid (show wr.heap.size < (wr.alloc F).heap.size by simp)
            obtain ⟨qk, hqk⟩ : ∃ qk, xk % 8 = qk := ⟨_, rfl⟩
            clear hm hinv hids hv
            by_cases hs : 4 < qk
            · have SN := Lib.hid (fun vm a b => rsent HM1.out.ra (by rw [HD.out.1]; omega) vm a b)
              obtain ⟨vm, hvm⟩ : ∃ vm, max vs xn = vm := ⟨_, rfl⟩
              have m0 : 0 ≤ vm := by omega
              have m1 : vm ≤ 18446744073709551615 := by omega
              have SN2 := Lib.hid (SN.out vm m0 m1)
              have HV2 := Lib.hid (show k = 1 → (if k = 1 then vm else v) = vm from fun e => if_pos e)
              obtain ⟨v', hv'⟩ : ∃ v', (if k = 1 then vm else v) = v' := ⟨_, rfl⟩
              rw [hv'] at SN2 HV2
              clear hv' SN
              rw [hF] at SN2
              rcases Int.lt_trichotomy vs xn with hc | hc | hc
              · have q0 : ¬ xn < vs := by omega
                obtain rfl : vm = xn := by omega
                go_wp2_with fail
                refine SN2.out.mono ?_
                rintro e w3 ⟨rfl, h3, m3⟩
                rw [← hF] at m3
                have HM3 := Lib.hid (HM1.out.mv m3 h3)
                clear h3 m3 gg hF SN2
                go_wp2
                go_roundw
                case rel => exact ⟨i + 1, nw, vm, v', es, ls, ms, by omega, rfl, rfl, by go_num, v0, v1, HV2.out, m0, m1, HM3.out, HI2.out, HD.out⟩
                case measure => simp [intOf] <;> omega
              · subst hc
                obtain rfl : vm = vs := by omega
                go_wp2_with fail
                refine SN2.out.mono ?_
                rintro e w3 ⟨rfl, h3, m3⟩
                rw [← hF] at m3
                have HM3 := Lib.hid (HM1.out.mv m3 h3)
                clear h3 m3 gg hF SN2
                go_wp2
                go_roundw
                case rel => exact ⟨i + 1, nw, vm, v', es, ls, ms, by omega, rfl, rfl, by go_num, v0, v1, HV2.out, m0, m1, HM3.out, HI2.out, HD.out⟩
                case measure => simp [intOf] <;> omega
              · have q0 : ¬ vs < xn := by omega
                obtain rfl : vm = vs := by omega
                go_wp2_with fail
                refine SN2.out.mono ?_
                rintro e w3 ⟨rfl, h3, m3⟩
                rw [← hF] at m3
                have HM3 := Lib.hid (HM1.out.mv m3 h3)
                clear h3 m3 gg hF SN2
                go_wp2
                go_roundw
                case rel => exact ⟨i + 1, nw, vm, v', es, ls, ms, by omega, rfl, rfl, by go_num, v0, v1, HV2.out, m0, m1, HM3.out, HI2.out, HD.out⟩
                case measure => simp [intOf] <;> omega
            · have hs2 : qk ≤ 4 := by omega
              have FR := first_or (fun j => (fs.getD j Fl.nil).id = xi) n1
              rcases FR with ⟨j, hj, h1, h2⟩ | hno
              · have NXA := Lib.hid (rnext_at HM1.out.ra kk0 kk1 xi j (by rw [HD.out.1]; exact hj) (by rw [HD.out.2 j hj]; exact h1) (fun q hq => by rw [HD.out.2 q (by omega)]; exact h2 q hq) nw xn v0 v2 y0 y1)
                have FI := Lib.hid (fun W (hW : Below w.heap.size w W) => find16_at (HR.out.below hW) c1 (by omega) xi j hj h1 h2)
                have FA := Lib.hid (fun hm => HI2.out.now (v := v) j (by rw [HD.out.1]; exact hj) hm)
                have FB := Lib.hid (show k = 1 → v ≤ rkOf k v nw (es.getD j Rf.nil) from fun e => by subst e; show v ≤ max v _; omega)
                have FN := Lib.hid (HI2.out.next (v := v) (n := xn) j (by rw [HD.out.1]; exact hj) (by rw [HM.out.ll, HD.out.1]; exact Nat.le_refl _) (by rw [HM.out.ml, HD.out.1]; exact Nat.le_refl _) (HM.out.ra.okAt j (by rw [HD.out.1]; exact hj)) HM.out.ra.vt.2 y0)
                have HD2 := Lib.hid (show (es.set j ((es.getD j Rf.nil).wt (tgOf k v xn (es.getD j Rf.nil)))).length = n1 ∧ ∀ q, q < n1 → ((es.set j ((es.getD j Rf.nil).wt (tgOf k v xn (es.getD j Rf.nil)))).getD q Rf.nil).id = (fs.getD q Fl.nil).id from ⟨by rw [List.length_set]; exact HD.out.1, fun q hq => by
                  rw [rf_set es j q _ (by rw [HD.out.1]; exact hj)]
                  split
                  · rename_i e; subst e; exact HD.out.2 j hj
                  · exact HD.out.2 q hq⟩)
                obtain ⟨rk, hrk⟩ : ∃ rk, rkOf k v nw (es.getD j Rf.nil) = rk := ⟨_, rfl⟩
                rw [hrk] at NXA FA FB FN
                obtain ⟨es2, he2⟩ : ∃ es2, es.set j ((es.getD j Rf.nil).wt (tgOf k v xn (es.getD j Rf.nil))) = es2 := ⟨_, rfl⟩
                rw [he2] at NXA FN HD2
                clear hrk he2 h1 h2
                have jz0 : (0 : Int) ≤ j := by omega
                have jz1 : (j : Int) < n1 := by omega
                rw [hF] at NXA
                go_wp2_with fail
                refine NXA.out.mono ?_
                rintro e w3 ⟨rfl, h3, m3⟩
                rw [← hF] at m3
                obtain ⟨g1, g2⟩ : w3.cell? ⟨wr.heap.size, 1, none⟩ = some (.int .u32 xi) ∧ w3.cell? ⟨wr.heap.size, 2, none⟩ = some (.int .u64 xn) := ⟨(m3.cellR _ 1 SW.out NG.out).trans gg.2.1, (m3.cellR _ 2 SW.out NG.out).trans gg.2.2.1⟩
                have HM3 := Lib.hid (HM1.out.mv m3 h3)
                clear h3 m3 gg hF NXA
                go_wp2_with fail
                refine (FI.out w3 HM3.out.b).mono ?_
                rintro e w4 ⟨rfl, rfl⟩
                obtain ⟨cl, cm, fl, fm⟩ := HM3.out.at j hj
                have VV := Lib.hid (rvirtual HM3.out.ra)
                have PUT := Lib.hid (HM3.out.put j rk)
                obtain ⟨lj, hlj⟩ : ∃ lj, ls.getD j 0 = lj := ⟨_, rfl⟩
                obtain ⟨mj, hmj⟩ : ∃ mj, ms.getD j false = mj := ⟨_, rfl⟩
                rw [hlj] at cl FA
                rw [hmj] at cm FA
                have hne := HM3.out.LM
                clear hlj hmj g1 g2 FI
                rcases (by omega : k = 1 ∨ k = 2 ∨ k = 3) with rfl | rfl | rfl
                · obtain rfl : v = vs := HV.out rfl
                  have qb : ¬ rk < v := by have := FB.out rfl; omega
                  cases mj with
                  | true =>
                    have qa : ¬ rk < lj := by have := (FA.out rfl).1 rfl; omega
                    clear FA FB HI
                    go_wp2_with (go_at_call 64; refine VV.out.mono ?_; rintro e w5 ⟨rfl, rfl⟩)
                    go_roundw
                    case rel => exact ⟨i + 1, nw, v, v, es2, _, _, by omega, rfl, rfl, by go_num, v0, v1, fun _ => rfl, vs0, vs1, PUT.out, FN.out, HD2.out⟩
                    case measure => simp [intOf] <;> omega
                  | false =>
                    clear FA FB HI
                    go_wp2_with (go_at_call 64; refine VV.out.mono ?_; rintro e w5 ⟨rfl, rfl⟩)
                    go_roundw
                    case rel => exact ⟨i + 1, nw, v, v, es2, _, _, by omega, rfl, rfl, by go_num, v0, v1, fun _ => rfl, vs0, vs1, PUT.out, FN.out, HD2.out⟩
                    case measure => simp [intOf] <;> omega
                · cases mj with
                  | true =>
                    have qa : ¬ rk < lj := by have := (FA.out rfl).2.1 rfl; omega
                    clear FA FB HI
                    go_wp2
                    go_roundw
                    case rel => exact ⟨i + 1, nw, vs, v, es2, _, _, by omega, rfl, rfl, by go_num, v0, v1, HV.out, vs0, vs1, PUT.out, FN.out, HD2.out⟩
                    case measure => simp [intOf] <;> omega
                  | false =>
                    clear FA FB HI
                    go_wp2
                    go_roundw
                    case rel => exact ⟨i + 1, nw, vs, v, es2, _, _, by omega, rfl, rfl, by go_num, v0, v1, HV.out, vs0, vs1, PUT.out, FN.out, HD2.out⟩
                    case measure => simp [intOf] <;> omega
                · cases mj with
                  | true =>
                    have qa : ¬ lj < rk := by have := (FA.out rfl).2.2 rfl; omega
                    clear FA FB HI
                    go_wp2
                    go_roundw
                    case rel => exact ⟨i + 1, nw, vs, v, es2, _, _, by omega, rfl, rfl, by go_num, v0, v1, HV.out, vs0, vs1, PUT.out, FN.out, HD2.out⟩
                    case measure => simp [intOf] <;> omega
                  | false =>
                    clear FA FB HI
                    go_wp2
                    go_roundw
                    case rel => exact ⟨i + 1, nw, vs, v, es2, _, _, by omega, rfl, rfl, by go_num, v0, v1, HV.out, vs0, vs1, PUT.out, FN.out, HD2.out⟩
                    case measure => simp [intOf] <;> omega
              · have NXA := Lib.hid (rnext_no HM1.out.ra (by rw [HD.out.1]; omega) xi (fun q hq => by rw [HD.out.1] at hq; rw [HD.out.2 q hq]; exact hno q hq) nw xn)
                have FI := Lib.hid (fun W (hW : Below w.heap.size w W) => find16_no (HR.out.below hW) c1 (by omega) xi hno)
                clear hno
                rw [hF] at NXA
                go_wp2_with fail
                refine NXA.out.mono ?_
                rintro e w3 ⟨rfl, b3⟩
                rw [← hF] at b3
                obtain ⟨g1, g2⟩ : w3.cell? ⟨wr.heap.size, 1, none⟩ = some (.int .u32 xi) ∧ w3.cell? ⟨wr.heap.size, 2, none⟩ = some (.int .u64 xn) := ⟨(b3.cell (p := ⟨wr.heap.size, 1, none⟩) SW.out).trans gg.2.1, (b3.cell (p := ⟨wr.heap.size, 2, none⟩) SW.out).trans gg.2.2.1⟩
                have HM3 := Lib.hid (HM1.out.below b3)
                clear b3 gg hF NXA
                go_wp2_with fail
                refine (FI.out w3 HM3.out.b).mono ?_
                rintro e w4 ⟨rfl, rfl⟩
                clear g1 g2 FI
                go_wp2
                go_roundw
                case rel => exact ⟨i + 1, nw, vs, v, es, ls, ms, by omega, rfl, rfl, by go_num, v0, v1, HV.out, vs0, vs1, HM3.out, HI2.out, HD.out⟩
                case measure => simp [intOf] <;> omega
          · go_wp2_with fail
            refine (LV.out _).mono ?_
            rintro e w9 ⟨rfl, b9⟩
            have FIN := Lib.hid (HM.out.b.trans (b9.mono HM.out.b.size))
            clear b9
            go_wp2
            go_ret
            exact ⟨rfl, FIN.out⟩
      · go_wp2_with fail
        refine (LV.out _).mono ?_
        rintro e w9 ⟨rfl, b9⟩
        have FIN := Lib.hid (hb.trans (b9.mono hb.size))
        clear b9
        go_wp2
        go_ret
        exact ⟨rfl, FIN.out⟩
end Go.Proofs.Ytnnbkooikimedaa
