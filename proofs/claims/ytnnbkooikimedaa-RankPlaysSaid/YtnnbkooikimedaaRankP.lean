/-
  The law of layer 16 on whatever is done with ranks: walked, for any kind, flows and acts. No condition.
-/
import Derived.Test.YtnnbkooikimedaaR16P
import Derived.Test.YtnnbkooikimedaaSame16
import Derived.Deep.CutBlock
import Derived.Deep.DeepCutAuto
import Derived.RegionTactic
import Derived.Deep.RegionWith
import Derived.Deep.RegionHeld3
namespace Go.Proofs.Ytnnbkooikimedaa
set_option linter.unusedVariables false
set_option linter.unusedSimpArgs false
open Go.ChangeShapes Go.WideShapes Go.ChangeAt Go.RowKit
attribute [local go_sem] alloc_drewN setCell_drewN

/-- The flows kept are those that came in. -/
def Match16 (fs : List Fl) (es : List Rf) : Prop := es.length = fs.length ∧ ∀ j, j < fs.length → (es.getD j Rf.nil).id = (fs.getD j Fl.nil).id ∧ (es.getD j Rf.nil).co = (fs.getD j Fl.nil).co ∧ (es.getD j Rf.nil).bu = (fs.getD j Fl.nil).bu
theorem Match16.start (kind : Int) (fs : List Fl) : Match16 fs (fs.map (initR kind)) := ⟨by simp, fun j hj => by
  rw [List.getD_eq_getElem?_getD, List.getElem?_map, List.getElem?_eq_getElem hj, List.getD_eq_getElem?_getD, List.getElem?_eq_getElem hj]
  exact ⟨rfl, rfl, rfl⟩⟩
theorem Match16.set {fs : List Fl} {es : List Rf} (h : Match16 fs es) (i : Nat) (hi : i < fs.length) (t : Int) : Match16 fs (es.set i ((es.getD i Rf.nil).wt t)) := ⟨by rw [List.length_set]; exact h.1, fun j hj => by
  rw [rf_set es i j _ (by rw [h.1]; exact hi)]
  split
  · rename_i e; subst e; exact h.2 i hi
  · exact h.2 j hj⟩
theorem Match16.laid {fs : List Fl} {es es' : List Rf} {zs : List Int} {n : Nat} (h : Match16 fs es) (hl : Laid16 es zs n es') : Match16 fs es' := ⟨hl.1.trans h.1, fun j hj => by
  rw [hl.2 j (by rw [h.1]; exact hj)]
  split
  · exact h.2 j hj
  · exact h.2 j hj⟩
theorem laid_tags {es es' : List Rf} {zs : List Int} (hz : zs.length = es.length) (hl : Laid16 es zs es.length es') : es'.map Rf.tg = zs := by
  apply List.ext_getElem?
  intro j
  by_cases hj : j < es.length
  · have h1 := hl.2 j hj
    rw [if_pos hj, rf_getD es' j (by rw [hl.1]; exact hj)] at h1
    rw [List.getElem?_map, List.getElem?_eq_getElem (by rw [hl.1]; exact hj), h1]
    show some (zs.getD j 0) = zs[j]?
    rw [List.getD_eq_getElem?_getD, List.getElem?_eq_getElem (by omega)]
    rfl
  · rw [List.getElem?_eq_none (by rw [List.length_map, hl.1]; omega), List.getElem?_eq_none (by omega)]
theorem tags_set (es : List Rf) (i : Nat) (t : Int) : (es.set i ((es.getD i Rf.nil).wt t)).map Rf.tg = (es.map Rf.tg).set i t := by
  rw [List.map_set]; rfl
theorem init_tags (kind : Int) (fs : List Fl) : (fs.map (initR kind)).map Rf.tg = fs.map (tag0 kind) := by rw [List.map_map]; rfl
set_option maxRecDepth 100000 in
set_option maxHeartbeats 8000000 in
theorem walk_rankPlays {w : World} (kind : Int) (k0 : -9223372036854775808 ≤ kind) (k1 : kind ≤ 9223372036854775807) (a1 : Option Addr) (n1 c1 : Nat) (fs : List Fl) (hr : RowFl w a1 n1 fs) (hc1 : n1 ≤ c1) (a2 : Option Addr) (n2 c2 : Nat) (zs : List Act16) (h2 : RowA16 w a2 n2 zs) (hc2 : n2 ≤ c2) :
    Calls Try.prog 9 #[.int .i64 kind, .slice a1 n1 c1, .slice a2 n2 c2] w fun e w' => e = .returned (.bool true) ∧ Below w.heap.size w w' := by
  have LV := Lib.hid (fun W => lives16 W)
  have HR := Lib.hid hr; have H2 := Lib.hid h2
  clear hr h2
  by_cases hbg : (100 : Int) < n1
  · go_enter Try.func9, Try.ntmps9
    go_wp2_with fail
    refine (LV.out _).mono ?_
    rintro e w9 ⟨rfl, b9⟩
    go_wp2
    go_ret
    exact ⟨rfl, b9⟩
  by_cases hbig : (200 : Int) < n2
  · go_enter Try.func9, Try.ntmps9
    go_wp2_with fail
    refine (LV.out _).mono ?_
    rintro e w9 ⟨rfl, b9⟩
    go_wp2
    go_ret
    exact ⟨rfl, b9⟩
  by_cases hk : kind < 1 ∨ 3 < kind
  · have NO := Lib.hid (fun W => rnew_kind kind hk (.slice a1 n1 c1) W)
    have CO := Lib.hid (fun W => check16_kind kind hk (.slice a1 n1 c1) W)
    clear hk
    go_enter Try.func9, Try.ntmps9
    go_wp2_with fail
    refine (NO.out _).mono ?_
    rintro e w2 ⟨rfl, rfl⟩
    go_wp2_with fail
    refine (CO.out _).mono ?_
    rintro e w2 ⟨rfl, rfl⟩
    go_wp2_with fail
    refine (LV.out _).mono ?_
    rintro e w9 ⟨rfl, b9⟩
    go_wp2
    go_ret
    exact ⟨rfl, b9⟩
  have kk0 : 1 ≤ kind := by omega
  have kk1 : kind ≤ 3 := by omega
  clear hk
  by_cases hn : n1 < 1 ∨ 64 < n1
  · have NO := Lib.hid (fun W => rnew_count kind kk0 kk1 a1 n1 c1 hn W)
    have CO := Lib.hid (fun W => check16_any kind kk0 kk1 (.slice a1 n1 c1) W (fun c w' => c = 29 ∧ w' = W) ((flows16_count a1 n1 c1 hn W).mono fun e w' h => ⟨29, h.1, rfl, h.2⟩))
    clear hn
    go_enter Try.func9, Try.ntmps9
    go_wp2_with fail
    refine (NO.out _).mono ?_
    rintro e w2 ⟨rfl, rfl⟩
    go_wp2_with fail
    refine (CO.out _).mono ?_
    rintro e w2 ⟨_, rfl, rfl, rfl⟩
    go_wp2_with fail
    refine (LV.out _).mono ?_
    rintro e w9 ⟨rfl, b9⟩
    go_wp2
    go_ret
    exact ⟨rfl, b9⟩
  have n1a : 1 ≤ n1 := by omega
  have n1b : n1 ≤ 64 := by omega
  clear hn
  have NA := Lib.hid (rnew_any kind kk0 kk1 a1 n1 c1 fs HR.out n1a n1b)
  have CK := Lib.hid (fun W (hb : Below w.heap.size w W) => check16_any kind kk0 kk1 (.slice a1 n1 c1) W (fun c w' => FlowsP fs c ∧ Below W.heap.size W w') (flows16 (HR.out.below hb) c1 n1a n1b))
  have NB := Lib.hid (fun W (hb : Below w.heap.size w W) => new16 kind a1 n1 c1 fs (HR.out.below hb) (by omega))
  have FL := Lib.hid HR.out.1
  go_enter Try.func9, Try.ntmps9
  go_wp2_with fail
  refine NA.out.mono ?_
  rintro e w1 ⟨v, code, rfl, hp, hb⟩
  have BA := Lib.hid hb
  have CK1 := Lib.hid (CK.out w1 hb)
  rcases hp with ⟨hd, rfl, rfl, va, h0⟩ | ⟨hd, rfl, rfl⟩
  · have HD := Lib.hid hd
    have HA := Lib.hid h0
    clear hd h0 hb NA
    go_wp2_with fail
    refine CK1.out.mono ?_
    rintro e w2 ⟨code, rfl, hf, hb⟩
    obtain rfl : code = 0 := by
      rcases hf with ⟨_, h⟩ | ⟨h, _⟩
      · exact h
      · exact absurd HD.out h
    have BB := Lib.hid (BA.out.trans (hb.mono BA.out.size))
    have HA2 := Lib.hid (HA.out.below hb)
    have NB1 := Lib.hid (NB.out w2 BB.out)
    have SZ2 := Lib.hid (Nat.le_trans BA.out.size hb.size)
    clear hf hb CK CK1 NB
    go_wp2_with fail
    refine NB1.out.mono ?_
    rintro e w3 ⟨rfl, ⟨vt0, h6⟩, hb⟩
    rw [← init_tags] at h6
    have HA3 := Lib.hid (HA2.out.below hb)
    have H6 := Lib.hid h6
    have BC := Lib.hid (BB.out.trans (hb.mono BB.out.size))
    have D0 := Lib.hid (Match16.start kind fs)
    have SEP := Lib.hid (fun j (h : inRa w.heap.size va j) => ((HA2.out.inlt h).2 : j < w2.heap.size))
    have LA := Lib.hid (fun j (h : inRa w.heap.size va j) => ((HA2.out.inlt h).1 : w.heap.size ≤ j))
    generalize hRR : w2.heap.size = R at *
    have WR := Lib.hid (show w.heap.size ≤ R by rw [← hRR]; exact BB.out.size)
    clear hb h6 NB1 HA HA2 BA BB hRR
    go_wp2
    go_loopw [11, 54] (fun nv z wr => ∃ (i : Nat) (now v : Int) (es : List Rf) (vt : Value), i ≤ n2 ∧ nv = .int .u64 now ∧ z = .int .i64 i ∧ 0 ≤ now ∧ now ≤ i * 4294967295 ∧ RanksAt wr w.heap.size w.heap.size kind v va es ∧ R16At wr R R kind v (.slice a1 n1 c1) vt (es.map Rf.tg) ∧ Match16 fs es ∧ Below w.heap.size w wr) (fun _ z _ => n2 - (intOf z).toNat)
    case atStart => exact ⟨0, 0, 0, _, _, Nat.zero_le _, rfl, rfl, by omega, by omega, HA3.out, H6.out, D0.out, BC.out⟩
    case round =>
      obtain ⟨i, now, v, es, vt, hi, rfl, rfl, nw0, nw1, ha, h6, hm, hbel⟩ := hrel
      have HAr := Lib.hid ha; have H6r := Lib.hid h6; have HD := Lib.hid hm; have HW := Lib.hid hbel
      clear HA3 H6 D0 BC
      by_cases hlt : i < n2
      · obtain ⟨b, off, rfl, hblt, d0, d1, d2, d3, d4⟩ := H2.out.atR hbel i hlt
        obtain ⟨⟨y8, y9⟩, ⟨x0, x1⟩, ⟨y0, y1⟩, ⟨l0, l1⟩, tr, tc⟩ := H2.out.okR i hlt
        have z0 : (0 : Int) ≤ i := by omega
        have z1 : (i : Int) < n2 := by omega
        obtain ⟨x, hx⟩ : ∃ x, zs.getD i Act16.nil = x := ⟨_, rfl⟩
        rw [hx] at d0 d1 d2 d3 d4 y8 y9 x0 x1 y0 y1 l0 l1 tr tc
        clear hx
        obtain ⟨xk, xi, xn, xl, xa, xm, xc, xz⟩ := x
        dsimp only at d0 d1 d2 d3 d4 y8 y9 x0 x1 y0 y1 l0 l1 tr tc
        have TR := Lib.hid tr
        obtain ⟨nw, hnw⟩ : ∃ nw, now + xl = nw := ⟨_, rfl⟩
        have v0 : 0 ≤ nw := by omega
        have v1 : nw ≤ ((i + 1 : Nat) : Int) * 4294967295 := by omega
        have v2 : nw ≤ 18446744073709551615 := by omega
        have v3 : IntKind.u64.wrap (now + xl) = nw := by rw [IntKind.wrap_u64]; omega
        obtain ⟨F, hF⟩ : ∃ F : Obj, F = .cells #[.int .u8 xk, .int .u32 xi, .int .u64 xn, .int .u32 xl, .slice xa xm xc] 112 := ⟨_, rfl⟩
        have BF := Lib.hid ((Below.refl _ wr).alloc (Nat.le_refl _) F)
        have HA1 := Lib.hid (HAr.out.below BF.out)
        have H61 := Lib.hid (H6r.out.below BF.out)
        have gg := cells5 wr (.int .u8 xk) (.int .u32 xi) (.int .u64 xn) (.int .u32 xl) (.slice xa xm xc) 112
        rw [← hF] at gg
        have NG := Lib.hid (fun h => Nat.lt_irrefl _ ((HAr.out.inlt (j := wr.heap.size) h).2))
        have NG6 := Lib.hid (fun h => Nat.lt_irrefl _ ((H6r.out.inlt (j := wr.heap.size) h).2))
        have HW1 := Lib.hid (HW.out.trans (BF.out.mono HW.out.size))
        have SW := Lib.hid (show wr.heap.size < (wr.alloc F).heap.size by simp)
        have EL := Lib.hid (show es.length = n1 by rw [HD.out.1]; exact FL.out)
        have VT := Lib.hid HAr.out.vt
        obtain ⟨qk, hqk⟩ : ∃ qk, xk % 8 = qk := ⟨_, rfl⟩
        have R6W := Lib.hid (show R ≤ wr.heap.size from Nat.le_of_lt (H6r.out.inlt (Or.inl rfl)).2)
        clear ha h6 hm hbel tr tc
        by_cases hs5 : qk = 5
        · have SN := Lib.hid (rsent HA1.out (by rw [EL.out]; omega) xn y0 y1)
          rw [hF] at SN
          go_wp2_with fail
          refine SN.out.mono ?_
          rintro e w4 ⟨rfl, h4, m4⟩
          rw [← hF] at m4
          obtain ⟨g0, g2⟩ : w4.cell? ⟨wr.heap.size, 0, none⟩ = some (.int .u8 xk) ∧ w4.cell? ⟨wr.heap.size, 2, none⟩ = some (.int .u64 xn) := ⟨(m4.cellR _ 0 SW.out NG.out).trans gg.1, (m4.cellR _ 2 SW.out NG.out).trans gg.2.2.1⟩
          have HA4 := Lib.hid h4
          have H64 := Lib.hid (H61.out.keep (fun q hq => m4.block q (H61.out.inlt hq).2 (fun hh => by have := SEP.out q hh; have := (H61.out.inlt hq).1; omega)))
          have HB4 := Lib.hid (m4.below HW1.out LA.out HW1.out.size)
          clear h4 m4 gg hF SN
          have S6 := Lib.hid (sent16 H64.out xn)
          go_wp2_with fail
          refine S6.out.mono ?_
          rintro e w6 ⟨rfl, h6, m6⟩
          have HRf := Lib.hid h6
          have HMf := Lib.hid (HA4.out.keep (fun q hq => m6.block q (HA4.out.inlt hq).2 (fun hh => by have := SEP.out q hq; have := (H64.out.inlt hh).1; omega)))
          have HBf := Lib.hid (m6.below HB4.out (fun q hq => by have := (H64.out.inlt hq).1; have := WR.out; omega) HB4.out.size)
          have DMf := HD
          obtain ⟨vn, hvn⟩ : ∃ vn, (if kind = 1 then xn else v) = vn := ⟨_, rfl⟩
          rw [hvn] at HRf HMf
          clear h6 m6 S6 hvn g0 g2
          obtain ⟨-, -, q2, q3, -, -⟩ := HRf.out.cell
          have LNf := Lib.hid (show es.length = n1 by rw [DMf.out.1]; exact FL.out)
          have VV := Lib.hid (rvirtual (HMf.out.below ((Below.refl _ w6).drew)))
          have TG := Lib.hid (rtags (HMf.out.below ((Below.refl _ w6).drew)) (by rw [LNf.out]; omega))
          have DRW := Lib.hid ((Below.refl w6.heap.size w6).drew)
          go_wp2
          first
            | (go_region_held3 (fun u => u.cell? ⟨R, 2, none⟩ = some vt ∧ u.cell? ⟨R, 3, none⟩ = some (.int .u64 vn)) ((first | exact ⟨q2, q3⟩ | exact ⟨HR5.out.cell.2.2.1, HR5.out.cell.2.2.2.1⟩ | exact ⟨HR7.out.cell.2.2.1, HR7.out.cell.2.2.2.1⟩)) (first
                | (go_at_call 64; refine VV.out.mono ?_; rintro e w5 ⟨rfl, hw5⟩; subst hw5)
                | (go_at_call 66; refine TG.out.mono ?_; rintro e w5 ⟨v5, rfl, u5, b5⟩; have U5 := Lib.hid u5; have B5 := Lib.hid (DRW.out.trans b5); have HR5 := Lib.hid (HRf.out.below B5.out); clear u5 b5)
                | (go_at_call 65; refine (samenum16 U5.out (show U64s _ R vt (es.map Rf.tg) from HR5.out.ot) (by rw [List.length_map, LNf.out]; omega)).mono ?_; rintro e w7 ⟨rfl, b7⟩; have B7 := Lib.hid (B5.out.trans (b7.mono B5.out.size)); have HR7 := Lib.hid (HRf.out.below B7.out); clear b7)
                | fail))
            | fail
          have HMe := Lib.hid (HMf.out.below B7.out)
          have HBe := Lib.hid (HBf.out.trans (B7.out.mono HBf.out.size))
          clear q2 q3 VV TG DRW
          go_wp2
          go_roundw
          case rel => exact ⟨i + 1, nw, vn, es, vt, by omega, rfl, by go_num, v0, v1, HMe.out, HR7.out, DMf.out, HBe.out⟩
          case measure => simp [intOf] <;> omega
        by_cases hs6 : qk = 6
        · have SN := Lib.hid (rsent HA1.out (by rw [EL.out]; omega) xn y0 y1)
          rw [hF] at SN
          go_wp2_with fail
          refine SN.out.mono ?_
          rintro e w4 ⟨rfl, h4, m4⟩
          rw [← hF] at m4
          obtain ⟨g0, g2⟩ : w4.cell? ⟨wr.heap.size, 0, none⟩ = some (.int .u8 xk) ∧ w4.cell? ⟨wr.heap.size, 2, none⟩ = some (.int .u64 xn) := ⟨(m4.cellR _ 0 SW.out NG.out).trans gg.1, (m4.cellR _ 2 SW.out NG.out).trans gg.2.2.1⟩
          have HA4 := Lib.hid h4
          have H64 := Lib.hid (H61.out.keep (fun q hq => m4.block q (H61.out.inlt hq).2 (fun hh => by have := SEP.out q hh; have := (H61.out.inlt hq).1; omega)))
          have HB4 := Lib.hid (m4.below HW1.out LA.out HW1.out.size)
          clear h4 m4 gg hF SN
          have S6 := Lib.hid (sent16 H64.out xn)
          go_wp2_with fail
          refine S6.out.mono ?_
          rintro e w6 ⟨rfl, h6, m6⟩
          have HRf := Lib.hid h6
          have HMf := Lib.hid (HA4.out.keep (fun q hq => m6.block q (HA4.out.inlt hq).2 (fun hh => by have := SEP.out q hq; have := (H64.out.inlt hh).1; omega)))
          have HBf := Lib.hid (m6.below HB4.out (fun q hq => by have := (H64.out.inlt hq).1; have := WR.out; omega) HB4.out.size)
          have DMf := HD
          obtain ⟨vn, hvn⟩ : ∃ vn, (if kind = 1 then xn else v) = vn := ⟨_, rfl⟩
          rw [hvn] at HRf HMf
          clear h6 m6 S6 hvn g0 g2
          obtain ⟨-, -, q2, q3, -, -⟩ := HRf.out.cell
          have LNf := Lib.hid (show es.length = n1 by rw [DMf.out.1]; exact FL.out)
          have VV := Lib.hid (rvirtual (HMf.out.below ((Below.refl _ w6).drew)))
          have TG := Lib.hid (rtags (HMf.out.below ((Below.refl _ w6).drew)) (by rw [LNf.out]; omega))
          have DRW := Lib.hid ((Below.refl w6.heap.size w6).drew)
          go_wp2
          first
            | (go_region_held3 (fun u => u.cell? ⟨R, 2, none⟩ = some vt ∧ u.cell? ⟨R, 3, none⟩ = some (.int .u64 vn)) ((first | exact ⟨q2, q3⟩ | exact ⟨HR5.out.cell.2.2.1, HR5.out.cell.2.2.2.1⟩ | exact ⟨HR7.out.cell.2.2.1, HR7.out.cell.2.2.2.1⟩)) (first
                | (go_at_call 64; refine VV.out.mono ?_; rintro e w5 ⟨rfl, hw5⟩; subst hw5)
                | (go_at_call 66; refine TG.out.mono ?_; rintro e w5 ⟨v5, rfl, u5, b5⟩; have U5 := Lib.hid u5; have B5 := Lib.hid (DRW.out.trans b5); have HR5 := Lib.hid (HRf.out.below B5.out); clear u5 b5)
                | (go_at_call 65; refine (samenum16 U5.out (show U64s _ R vt (es.map Rf.tg) from HR5.out.ot) (by rw [List.length_map, LNf.out]; omega)).mono ?_; rintro e w7 ⟨rfl, b7⟩; have B7 := Lib.hid (B5.out.trans (b7.mono B5.out.size)); have HR7 := Lib.hid (HRf.out.below B7.out); clear b7)
                | fail))
            | fail
          have HMe := Lib.hid (HMf.out.below B7.out)
          have HBe := Lib.hid (HBf.out.trans (B7.out.mono HBf.out.size))
          clear q2 q3 VV TG DRW
          go_wp2
          go_roundw
          case rel => exact ⟨i + 1, nw, vn, es, vt, by omega, rfl, by go_num, v0, v1, HMe.out, HR7.out, DMf.out, HBe.out⟩
          case measure => simp [intOf] <;> omega
        by_cases hs7 : qk = 7
        · by_cases hne : xm = n1
          · have HNE := Lib.hid hne
            have HXA := Lib.hid (fun g off (e : xa = some ⟨g, off, none⟩) => (by
              obtain ⟨b9, o9, e9, hl9, _⟩ := TR.out.2.2.2 (by omega)
              rw [e] at e9
              injection e9 with e9
              injection e9 with e9
              omega : g < w.heap.size))
            have TW := Lib.hid (fun W (hb : Below w.heap.size w W) => (show Row1 .u64 W xa xm xz from ⟨TR.out.1, TR.out.2.1, TR.out.2.2.1, fun h => by
              obtain ⟨b9, o9, e9, hl9, hc9⟩ := TR.out.2.2.2 h
              exact ⟨b9, o9, e9, Nat.lt_of_lt_of_le hl9 hb.size, fun q hq => (hb.cell (p := ⟨b9, o9 + q, none⟩) hl9).trans (hc9 q hq)⟩⟩))
            have LA1 := Lib.hid (rlay_ok (HA1.out.below ((Below.refl _ _).drew)) (by rw [EL.out]; omega) xn y0 y1 xa xm xc xz (TW.out _ HW1.out.drew) (fun g off e hg => by have := HXA.out g off e; have := LA.out g hg; omega) (by rw [EL.out]; exact HNE.out))
            have LB1 := Lib.hid (fun (W : World) (h : R16At W R R kind v (.slice a1 n1 c1) vt (es.map Rf.tg)) (hb : Below w.heap.size w W) => lay16_ok a1 n1 c1 h (Nat.le_of_lt (h.inlt (Or.inl rfl)).2) xn xa xm xc xz (TW.out W hb) (fun g off e hg => by have := HXA.out g off e; have := WR.out; omega) HNE.out (by omega) (by omega))
            have ZL := Lib.hid (show xz.length = es.length by rw [EL.out, TR.out.1]; exact HNE.out)
            have HM0 := Lib.hid (HA1.out.below ((Below.refl _ _).drew))
            have HR0 := Lib.hid (H61.out.below ((Below.refl _ _).drew))
            have HB0 := Lib.hid (HW1.out.drew)
            have SW0 := Lib.hid (show wr.heap.size < (wr.alloc F).drew.heap.size from SW.out)
            rw [hF] at gg HM0 HR0 HB0 LA1 SW0
            obtain ⟨wf9, hwf9⟩ : ∃ wf9, wr.alloc (.cells #[.int .u8 xk, .int .u32 xi, .int .u64 xn, .int .u32 xl, .slice xa xm xc] 112) = wf9 := ⟨_, rfl⟩
            rw [hwf9] at gg HM0 HR0 HB0 LA1 SW0
            obtain ⟨gz0, gz1, g2, gz3, g4⟩ := gg
            clear hF BF SW hne
            go_wp2
            first
              | (go_region_held3 (fun u => u.cell? ⟨wr.heap.size, 2, none⟩ = some (.int .u64 xn) ∧ u.cell? ⟨wr.heap.size, 4, none⟩ = some (.slice xa xm xc)) ((first | exact ⟨g2, g4⟩ | exact G5.out | exact G6.out)) (first
                  | (go_at_call 60; refine LA1.out.mono ?_; rintro e w5 ⟨rfl, es5, h5, l5, m5⟩; have HA5 := Lib.hid h5; have L5 := Lib.hid l5; have G5 := Lib.hid (⟨(m5.cellR _ 2 SW0.out NG.out).trans g2, (m5.cellR _ 4 SW0.out NG.out).trans g4⟩ : w5.cell? ⟨wr.heap.size, 2, none⟩ = some (.int .u64 xn) ∧ w5.cell? ⟨wr.heap.size, 4, none⟩ = some (.slice xa xm xc)); have H65 := Lib.hid (HR0.out.keep (fun q hq => m5.block q (HR0.out.inlt hq).2 (fun hh => by have := SEP.out q hh; have := (HR0.out.inlt hq).1; omega))); have HB5 := Lib.hid (m5.below HB0.out LA.out HB0.out.size); have SW5 := Lib.hid (Nat.lt_of_lt_of_le SW0.out m5.size); clear h5 l5 m5)
                  | (go_at_call 61; refine (LB1.out _ H65.out HB5.out).mono ?_; rintro e w6 ⟨rfl, vt6, h6, m6⟩; have HRf := Lib.hid h6; have G6 := Lib.hid (⟨(m6.cellR _ 2 SW5.out NG6.out).trans G5.out.1, (m6.cellR _ 4 SW5.out NG6.out).trans G5.out.2⟩ : w6.cell? ⟨wr.heap.size, 2, none⟩ = some (.int .u64 xn) ∧ w6.cell? ⟨wr.heap.size, 4, none⟩ = some (.slice xa xm xc)); have HMf := Lib.hid (HA5.out.keep (fun q hq => m6.block q (HA5.out.inlt hq).2 (fun hh => by have := SEP.out q hq; have := (H65.out.inlt hh).1; omega))); have HBf := Lib.hid (m6.below HB5.out (fun q hq => by have := (H65.out.inlt hq).1; have := WR.out; omega) HB5.out.size); clear h6 m6)
                  | fail))
              | fail
            have LT := Lib.hid (laid_tags ZL.out (by rw [← ZL.out, TR.out.1]; exact L5.out))
            rw [← LT.out] at HRf
            have DMf := Lib.hid (HD.out.laid L5.out)
            clear hwf9 LA1 LB1 g2 g4 gz0 gz1 gz3
            obtain ⟨-, -, q2, q3, -, -⟩ := HRf.out.cell
            have LNf := Lib.hid (show es5.length = n1 by rw [DMf.out.1]; exact FL.out)
            have VV := Lib.hid (rvirtual (HMf.out.below ((Below.refl _ w6).drew)))
            have TG := Lib.hid (rtags (HMf.out.below ((Below.refl _ w6).drew)) (by rw [LNf.out]; omega))
            have DRW := Lib.hid ((Below.refl w6.heap.size w6).drew)
            go_wp2
            first
              | (go_region_held3 (fun u => u.cell? ⟨R, 2, none⟩ = some vt6 ∧ u.cell? ⟨R, 3, none⟩ = some (.int .u64 xn)) ((first | exact ⟨q2, q3⟩ | exact ⟨HR5.out.cell.2.2.1, HR5.out.cell.2.2.2.1⟩ | exact ⟨HR7.out.cell.2.2.1, HR7.out.cell.2.2.2.1⟩)) (first
                  | (go_at_call 64; refine VV.out.mono ?_; rintro e w5 ⟨rfl, hw5⟩; subst hw5)
                  | (go_at_call 66; refine TG.out.mono ?_; rintro e w5 ⟨v5, rfl, u5, b5⟩; have U5 := Lib.hid u5; have B5 := Lib.hid (DRW.out.trans b5); have HR5 := Lib.hid (HRf.out.below B5.out); clear u5 b5)
                  | (go_at_call 65; refine (samenum16 U5.out (show U64s _ R vt6 (es5.map Rf.tg) from HR5.out.ot) (by rw [List.length_map, LNf.out]; omega)).mono ?_; rintro e w7 ⟨rfl, b7⟩; have B7 := Lib.hid (B5.out.trans (b7.mono B5.out.size)); have HR7 := Lib.hid (HRf.out.below B7.out); clear b7)
                  | fail))
              | fail
            have HMe := Lib.hid (HMf.out.below B7.out)
            have HBe := Lib.hid (HBf.out.trans (B7.out.mono HBf.out.size))
            clear q2 q3 VV TG DRW
            go_wp2
            go_roundw
            case rel => exact ⟨i + 1, nw, xn, es5, vt6, by omega, rfl, by go_num, v0, v1, HMe.out, HR7.out, DMf.out, HBe.out⟩
            case measure => simp [intOf] <;> omega
          · have LA1 := Lib.hid (rlay_no (HA1.out.below ((Below.refl _ _).drew)) (by rw [EL.out]; omega) xn xa xm xc (by rw [EL.out]; exact hne))
            have LB1 := Lib.hid (lay16_no a1 n1 c1 (H61.out.below ((Below.refl _ _).drew)) xn xa xm xc hne)
            rw [hF] at LA1 LB1
            have HMf := Lib.hid (HA1.out.below ((Below.refl _ _).drew))
            have HRf := Lib.hid (H61.out.below ((Below.refl _ _).drew))
            have HBf := Lib.hid (HW1.out.drew)
            rw [hF] at gg HMf HRf HBf
            obtain ⟨wf9, hwf9⟩ : ∃ wf9, wr.alloc (.cells #[.int .u8 xk, .int .u32 xi, .int .u64 xn, .int .u32 xl, .slice xa xm xc] 112) = wf9 := ⟨_, rfl⟩
            rw [hwf9] at gg HMf HRf HBf LA1 LB1
            have DMf := HD
            obtain ⟨gz0, gz1, g2, gz3, g4⟩ := gg
            clear hF BF SW
            go_wp2
            first
              | (go_region_held3 (fun u => u.cell? ⟨wr.heap.size, 2, none⟩ = some (.int .u64 xn) ∧ u.cell? ⟨wr.heap.size, 4, none⟩ = some (.slice xa xm xc)) ((first | exact ⟨g2, g4⟩)) (first
                  | (go_at_call 60; refine LA1.out.mono ?_; rintro e w5 ⟨rfl, hw5⟩; subst hw5)
                  | (go_at_call 61; refine LB1.out.mono ?_; rintro e w5 ⟨rfl, hw5⟩; subst hw5)
                  | fail))
              | fail
            obtain ⟨wx, hwx⟩ : ∃ wx, wf9.drew = wx := ⟨_, rfl⟩
            rw [hwx] at HMf HRf HBf ⊢
            clear hwx hwf9 LA1 LB1 g2 g4 gz0 gz1 gz3
            obtain ⟨-, -, q2, q3, -, -⟩ := HRf.out.cell
            have LNf := Lib.hid (show es.length = n1 by rw [DMf.out.1]; exact FL.out)
            have VV := Lib.hid (rvirtual (HMf.out.below ((Below.refl _ wx).drew)))
            have TG := Lib.hid (rtags (HMf.out.below ((Below.refl _ wx).drew)) (by rw [LNf.out]; omega))
            have DRW := Lib.hid ((Below.refl wx.heap.size wx).drew)
            go_wp2
            first
              | (go_region_held3 (fun u => u.cell? ⟨R, 2, none⟩ = some vt ∧ u.cell? ⟨R, 3, none⟩ = some (.int .u64 v)) ((first | exact ⟨q2, q3⟩ | exact ⟨HR5.out.cell.2.2.1, HR5.out.cell.2.2.2.1⟩ | exact ⟨HR7.out.cell.2.2.1, HR7.out.cell.2.2.2.1⟩)) (first
                  | (go_at_call 64; refine VV.out.mono ?_; rintro e w5 ⟨rfl, hw5⟩; subst hw5)
                  | (go_at_call 66; refine TG.out.mono ?_; rintro e w5 ⟨v5, rfl, u5, b5⟩; have U5 := Lib.hid u5; have B5 := Lib.hid (DRW.out.trans b5); have HR5 := Lib.hid (HRf.out.below B5.out); clear u5 b5)
                  | (go_at_call 65; refine (samenum16 U5.out (show U64s _ R vt (es.map Rf.tg) from HR5.out.ot) (by rw [List.length_map, LNf.out]; omega)).mono ?_; rintro e w7 ⟨rfl, b7⟩; have B7 := Lib.hid (B5.out.trans (b7.mono B5.out.size)); have HR7 := Lib.hid (HRf.out.below B7.out); clear b7)
                  | fail))
              | fail
            have HMe := Lib.hid (HMf.out.below B7.out)
            have HBe := Lib.hid (HBf.out.trans (B7.out.mono HBf.out.size))
            clear q2 q3 VV TG DRW
            go_wp2
            go_roundw
            case rel => exact ⟨i + 1, nw, v, es, vt, by omega, rfl, by go_num, v0, v1, HMe.out, HR7.out, DMf.out, HBe.out⟩
            case measure => simp [intOf] <;> omega
        have FR := first_or (fun j => (fs.getD j Fl.nil).id = xi) n1
        rcases FR with ⟨j, hj, h1, h2⟩ | hno
        · have HHJ := Lib.hid (HD.out.2 j (by rw [FL.out]; exact hj))
          have NXA := Lib.hid (rnext_at HA1.out kk0 kk1 xi j (by rw [EL.out]; exact hj) (by rw [HHJ.out.1]; exact h1) (fun q hq => by rw [(HD.out.2 q (by rw [FL.out]; omega)).1]; exact h2 q hq) nw xn v0 v2 y0 y1)
          have TJ := Lib.hid (HA1.out.okAt j (by rw [EL.out]; exact hj)).2.2
          have TE := Lib.hid (tg_getD es j (by rw [EL.out]; exact hj))
          have H1 := Lib.hid h1; have HH2 := Lib.hid h2
          have NXB := Lib.hid (fun (W : World) (h : R16At W R R kind v (.slice a1 n1 c1) vt (es.map Rf.tg)) (hb : Below w.heap.size w W) => next16_at a1 n1 c1 fs h (Nat.le_of_lt (h.inlt (Or.inl rfl)).2) (HR.out.below hb) (by omega) (by rw [List.length_map]; exact EL.out) kk0 kk1 VT.out.1 VT.out.2 xi nw xn v0 v2 y0 y1 j hj H1.out HH2.out (by rw [TE.out]; exact TJ.out.1) (by rw [TE.out]; exact TJ.out.2))
          have EJ := Lib.hid (show (⟨(fs.getD j Fl.nil).id, (fs.getD j Fl.nil).co, (fs.getD j Fl.nil).bu, (es.map Rf.tg).getD j 0⟩ : Rf) = es.getD j Rf.nil by rw [TE.out, ← HHJ.out.1, ← HHJ.out.2.1, ← HHJ.out.2.2])
          rw [EJ.out] at NXB
          have DM2 := Lib.hid (HD.out.set j (by rw [FL.out]; exact hj) (tgOf kind v xn (es.getD j Rf.nil)))
          have TS := Lib.hid (tags_set es j (tgOf kind v xn (es.getD j Rf.nil)))
          rw [← TS.out] at NXB
          obtain ⟨rk, hrk⟩ : ∃ rk, rkOf kind v nw (es.getD j Rf.nil) = rk := ⟨_, rfl⟩
          rw [hrk] at NXA NXB
          obtain ⟨es2, he2⟩ : ∃ es2, es.set j ((es.getD j Rf.nil).wt (tgOf kind v xn (es.getD j Rf.nil))) = es2 := ⟨_, rfl⟩
          rw [he2] at NXA NXB DM2
          clear hrk he2 h1 h2 TS EJ TE TJ
          rw [hF] at NXA
          go_wp2_with fail
          refine NXA.out.mono ?_
          rintro e w4 ⟨rfl, h4, m4⟩
          rw [← hF] at m4
          obtain ⟨g1, g2⟩ : w4.cell? ⟨wr.heap.size, 1, none⟩ = some (.int .u32 xi) ∧ w4.cell? ⟨wr.heap.size, 2, none⟩ = some (.int .u64 xn) := ⟨(m4.cellR _ 1 SW.out NG.out).trans gg.2.1, (m4.cellR _ 2 SW.out NG.out).trans gg.2.2.1⟩
          have HA4 := Lib.hid h4
          have H64 := Lib.hid (H61.out.keep (fun q hq => m4.block q (H61.out.inlt hq).2 (fun hh => by have := SEP.out q hh; have := (H61.out.inlt hq).1; omega)))
          have HB4 := Lib.hid (m4.below HW1.out LA.out HW1.out.size)
          clear h4 m4 gg hF NXA
          have N6 := Lib.hid (NXB.out w4 H64.out HB4.out)
          clear NXB
          go_wp2_with fail
          refine N6.out.mono ?_
          rintro e w6 ⟨rfl, vt2, h6, m6⟩
          have HRf := Lib.hid h6
          have HMf := Lib.hid (HA4.out.keep (fun q hq => m6.block q (HA4.out.inlt hq).2 (fun hh => by have := SEP.out q hq; have := (H64.out.inlt hh).1; omega)))
          have HBf := Lib.hid (m6.below HB4.out (fun q hq => by have := (H64.out.inlt hq).1; have := WR.out; omega) HB4.out.size)
          have DMf := DM2
          clear h6 m6 N6 g1 g2
          obtain ⟨-, -, q2, q3, -, -⟩ := HRf.out.cell
          have LNf := Lib.hid (show es2.length = n1 by rw [DMf.out.1]; exact FL.out)
          have VV := Lib.hid (rvirtual (HMf.out.below ((Below.refl _ w6).drew)))
          have TG := Lib.hid (rtags (HMf.out.below ((Below.refl _ w6).drew)) (by rw [LNf.out]; omega))
          have DRW := Lib.hid ((Below.refl w6.heap.size w6).drew)
          go_wp2
          first
            | (go_region_held3 (fun u => u.cell? ⟨R, 2, none⟩ = some vt2 ∧ u.cell? ⟨R, 3, none⟩ = some (.int .u64 v)) ((first | exact ⟨q2, q3⟩ | exact ⟨HR5.out.cell.2.2.1, HR5.out.cell.2.2.2.1⟩ | exact ⟨HR7.out.cell.2.2.1, HR7.out.cell.2.2.2.1⟩)) (first
                | (go_at_call 64; refine VV.out.mono ?_; rintro e w5 ⟨rfl, hw5⟩; subst hw5)
                | (go_at_call 66; refine TG.out.mono ?_; rintro e w5 ⟨v5, rfl, u5, b5⟩; have U5 := Lib.hid u5; have B5 := Lib.hid (DRW.out.trans b5); have HR5 := Lib.hid (HRf.out.below B5.out); clear u5 b5)
                | (go_at_call 65; refine (samenum16 U5.out (show U64s _ R vt2 (es2.map Rf.tg) from HR5.out.ot) (by rw [List.length_map, LNf.out]; omega)).mono ?_; rintro e w7 ⟨rfl, b7⟩; have B7 := Lib.hid (B5.out.trans (b7.mono B5.out.size)); have HR7 := Lib.hid (HRf.out.below B7.out); clear b7)
                | fail))
            | fail
          have HMe := Lib.hid (HMf.out.below B7.out)
          have HBe := Lib.hid (HBf.out.trans (B7.out.mono HBf.out.size))
          clear q2 q3 VV TG DRW
          go_wp2
          go_roundw
          case rel => exact ⟨i + 1, nw, v, es2, vt2, by omega, rfl, by go_num, v0, v1, HMe.out, HR7.out, DMf.out, HBe.out⟩
          case measure => simp [intOf] <;> omega
        · have NXA := Lib.hid (rnext_no HA1.out (by rw [EL.out]; omega) xi (fun q hq => by rw [EL.out] at hq; rw [(HD.out.2 q (by rw [FL.out]; exact hq)).1]; exact hno q hq) nw xn)
          have HN := Lib.hid hno
          have NXB := Lib.hid (fun (W : World) (h : R16At W R R kind v (.slice a1 n1 c1) vt (es.map Rf.tg)) (hb : Below w.heap.size w W) => next16_no a1 n1 c1 fs h (HR.out.below hb) (by omega) xi nw xn HN.out)
          clear hno
          rw [hF] at NXA
          go_wp2_with fail
          refine NXA.out.mono ?_
          rintro e w4 ⟨rfl, b4⟩
          rw [← hF] at b4
          obtain ⟨g1, g2⟩ : w4.cell? ⟨wr.heap.size, 1, none⟩ = some (.int .u32 xi) ∧ w4.cell? ⟨wr.heap.size, 2, none⟩ = some (.int .u64 xn) := ⟨(b4.cell (p := ⟨wr.heap.size, 1, none⟩) SW.out).trans gg.2.1, (b4.cell (p := ⟨wr.heap.size, 2, none⟩) SW.out).trans gg.2.2.1⟩
          have HMf := Lib.hid (HA1.out.below b4)
          have HRf := Lib.hid (H61.out.below b4)
          have HBf := Lib.hid (HW1.out.trans (b4.mono HW1.out.size))
          have DMf := HD
          clear b4 gg hF NXA
          have N6 := Lib.hid (NXB.out w4 HRf.out HBf.out)
          clear NXB
          go_wp2_with fail
          refine N6.out.mono ?_
          rintro e w6 ⟨rfl, rfl⟩
          clear N6 g1 g2
          obtain ⟨-, -, q2, q3, -, -⟩ := HRf.out.cell
          have LNf := Lib.hid (show es.length = n1 by rw [DMf.out.1]; exact FL.out)
          have VV := Lib.hid (rvirtual (HMf.out.below ((Below.refl _ w6).drew)))
          have TG := Lib.hid (rtags (HMf.out.below ((Below.refl _ w6).drew)) (by rw [LNf.out]; omega))
          have DRW := Lib.hid ((Below.refl w6.heap.size w6).drew)
          go_wp2
          first
            | (go_region_held3 (fun u => u.cell? ⟨R, 2, none⟩ = some vt ∧ u.cell? ⟨R, 3, none⟩ = some (.int .u64 v)) ((first | exact ⟨q2, q3⟩ | exact ⟨HR5.out.cell.2.2.1, HR5.out.cell.2.2.2.1⟩ | exact ⟨HR7.out.cell.2.2.1, HR7.out.cell.2.2.2.1⟩)) (first
                | (go_at_call 64; refine VV.out.mono ?_; rintro e w5 ⟨rfl, hw5⟩; subst hw5)
                | (go_at_call 66; refine TG.out.mono ?_; rintro e w5 ⟨v5, rfl, u5, b5⟩; have U5 := Lib.hid u5; have B5 := Lib.hid (DRW.out.trans b5); have HR5 := Lib.hid (HRf.out.below B5.out); clear u5 b5)
                | (go_at_call 65; refine (samenum16 U5.out (show U64s _ R vt (es.map Rf.tg) from HR5.out.ot) (by rw [List.length_map, LNf.out]; omega)).mono ?_; rintro e w7 ⟨rfl, b7⟩; have B7 := Lib.hid (B5.out.trans (b7.mono B5.out.size)); have HR7 := Lib.hid (HRf.out.below B7.out); clear b7)
                | fail))
            | fail
          have HMe := Lib.hid (HMf.out.below B7.out)
          have HBe := Lib.hid (HBf.out.trans (B7.out.mono HBf.out.size))
          clear q2 q3 VV TG DRW
          go_wp2
          go_roundw
          case rel => exact ⟨i + 1, nw, v, es, vt, by omega, rfl, by go_num, v0, v1, HMe.out, HR7.out, DMf.out, HBe.out⟩
          case measure => simp [intOf] <;> omega
      · go_wp2_with fail
        refine (LV.out _).mono ?_
        rintro e w9 ⟨rfl, b9⟩
        have FIN := Lib.hid (HW.out.trans (b9.mono HW.out.size))
        clear b9
        go_wp2
        go_ret
        exact ⟨rfl, FIN.out⟩
  · have HD := Lib.hid hd
    clear hd hb
    go_wp2_with fail
    refine CK1.out.mono ?_
    rintro e w2 ⟨code, rfl, hf, hb⟩
    obtain rfl : code = 30 := by
      rcases hf with ⟨h, _⟩ | ⟨_, h⟩
      · exact absurd h HD.out
      · exact h
    have BB := Lib.hid (BA.out.trans (hb.mono BA.out.size))
    clear hf hb
    go_wp2_with fail
    refine (LV.out _).mono ?_
    rintro e w9 ⟨rfl, b9⟩
    have FIN := Lib.hid (BB.out.trans (b9.mono BB.out.size))
    clear b9
    go_wp2
    go_ret
    exact ⟨rfl, FIN.out⟩
end Go.Proofs.Ytnnbkooikimedaa
