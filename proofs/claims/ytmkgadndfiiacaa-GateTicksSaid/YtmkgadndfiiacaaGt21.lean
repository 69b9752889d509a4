/-
  The law on ticks: true for any plan and any time. No condition.
-/
import Derived.Test.YtmkgadndfiiacaaGt23
import Derived.Deep.CutBlock
import Derived.Deep.DeepCutAuto
import Derived.RegionTactic
import Derived.Deep.RegionWith
import Derived.Deep.RegionHeld3
import Derived.Deep.RegionLaw
import Derived.Deep.AppendLies
import Derived.Maps.AppendAt
namespace Go.Proofs.Ytmkgadndfiiacaa
set_option linter.unusedVariables false
set_option linter.unusedSimpArgs false
open Go.ChangeShapes Go.WideShapes Go.ChangeAt Go.RowKit
attribute [local go_sem] alloc_drewN setCell_drewN

theorem infoSl : (Try.prog.info? 67).map (fun i => (i.zero, i.size, i.bytes)) = some (some (.agg #[.int .u8 0, .int .u64 0]), 2, 16) := by kernel_rfl
theorem infoU8 : (Try.prog.info? 5).map (fun i => (i.zero, i.size, i.bytes)) = some (some (.int .u8 0), 1, 1) := by kernel_rfl
theorem Row1.at1 {k : IntKind} {w w' : World} {a : Option Addr} {n : Nat} {zs : List Int} (h : Row1 k w a n zs) (hb : Below w.heap.size w w') (i : Nat) (hi : i < n) : ∃ b off, a = some ⟨b, off, none⟩ ∧ w'.cell? ⟨b, off + i, none⟩ = some (.int k (zs.getD i 0)) := by
  obtain ⟨b, off, e, hlt, hc⟩ := h.2.2.2 (by omega)
  exact ⟨b, off, e, (hb.cell (p := ⟨b, _, none⟩) hlt).trans (hc i hi)⟩
theorem Row1.u8 {w : World} {a : Option Addr} {n : Nat} {zs : List Int} (h : Row1 .u8 w a n zs) (i : Nat) : 0 ≤ zs.getD i 0 ∧ zs.getD i 0 ≤ 255 := by
  rw [List.getD_eq_getElem?_getD]
  by_cases hi : i < zs.length
  · rw [List.getElem?_eq_getElem hi]
    exact bounds_u8 (h.2.2.1 _ (List.getElem_mem _))
  · rw [List.getElem?_eq_none (by omega)]
    exact ⟨by decide, by decide⟩
/-- The plan that the law makes. -/
def plan22 (zs os : List Int) (n : Nat) : List Slot22 := (List.range n).map (fun i => ⟨os.getD i 0, zs.getD i 0 % 10 + 1⟩)
theorem plan22_len (zs os : List Int) (n : Nat) : (plan22 zs os n).length = n := by simp [plan22]
theorem plan22_at (zs os : List Int) {n i : Nat} (h : i < n) : slotN (plan22 zs os n) i = ⟨os.getD i 0, zs.getD i 0 % 10 + 1⟩ := by
  unfold slotN plan22
  rw [List.getD_eq_getElem?_getD, List.getElem?_map, List.getElem?_range h]
  rfl
theorem plan22_take (zs os : List Int) {n i : Nat} (h : i < n) : (plan22 zs os n).take (i + 1) = (plan22 zs os n).take i ++ [⟨os.getD i 0, zs.getD i 0 % 10 + 1⟩] := by
  unfold plan22
  rw [← List.map_take, ← List.map_take, List.take_range, List.take_range, Nat.min_eq_left (show i + 1 ≤ n by omega), Nat.min_eq_left (show i ≤ n by omega), List.range_succ, List.map_append]
  rfl
theorem plan22_ok (zs os : List Int) {n : Nat} (h1 : 1 ≤ n) (h2 : n ≤ 12) : PlanOk (plan22 zs os n) n := ⟨⟨h1, by omega⟩, fun i hi => by rw [plan22_at zs os hi]; unfold Slot22.good; dsimp only; omega⟩
theorem plan22_le (zs os : List Int) {n : Nat} : ∀ i, i ≤ n → 0 ≤ spans (plan22 zs os n) i ∧ spans (plan22 zs os n) i ≤ 10 * i
  | 0, _ => by simp [spans]
  | i + 1, hi => by
    have h := plan22_le zs os (n := n) i (by omega)
    simp only [spans]
    rw [plan22_at zs os (show i < n by omega)]
    dsimp only
    omega
set_option maxRecDepth 100000 in
set_option maxHeartbeats 4000000 in
theorem ticks22_a0 (a : Option Addr) (n c : Nat) (zs : List Int) {w : World} (hr : Row1 .u8 w a n zs) (hcap : n ≤ c) (a2 : Option Addr) (n2 c2 : Nat) (os : List Int) (hr2 : Row1 .u8 w a2 n2 os) (hcap2 : n2 ≤ c2) (q0 : Int) (q00 : 0 ≤ q0) (q01 : q0 ≤ 255) (q1 : Int) (q10 : 0 ≤ q1) (q11 : q1 ≤ 255) (q2 : Int) (q20 : 0 ≤ q2) (q21 : q2 ≤ 255) (hbad : n = 0) :
    Calls Try.prog 6 #[.slice a n c, .slice a2 n2 c2, .agg #[.int .u8 q0, .int .u8 q1, .int .u8 q2]] w fun e w' => e = .returned (.bool true) ∧ Below w.heap.size w w' := by
  have LV := Lib.hid (fun (W : World) => lives22 W)
  have hm1 := hr.2.1
  have hm2 := hr2.2.1
  unfold maxLen at hm1 hm2
  have e0 : ((n : Int) == 0) = true := by simp [hbad]
  clear hr hr2 hbad
  go_enter Try.func6, Try.ntmps6
  go_wp2_with fail
  go_quiet (fail)
  obtain ⟨W1, hW1⟩ : ∃ W1, W1 = (w.alloc (.cells #[.int .u8 q0, .int .u8 q1, .int .u8 q2] 72)).drewN nq := ⟨_, rfl⟩
  have hb1 : Below w.heap.size w W1 := by rw [hW1]; exact below_drewN _ ((Below.refl _ w).alloc (Nat.le_refl _) _)
  rw [← hW1]
  clear hW1
  have HB1 := Lib.hid hb1
  clear hb1
  go_wp2_with fail
  refine (LV.out _).mono ?_
  rintro e W2 ⟨rfl, hb2⟩
  have HB2 := Lib.hid (HB1.out.trans (hb2.mono HB1.out.size))
  clear hb2
  go_wp2
  go_ret
  exact ⟨rfl, HB2.out⟩
set_option maxRecDepth 100000 in
set_option maxHeartbeats 4000000 in
theorem ticks22_a1 (a : Option Addr) (n c : Nat) (zs : List Int) {w : World} (hr : Row1 .u8 w a n zs) (hcap : n ≤ c) (a2 : Option Addr) (n2 c2 : Nat) (os : List Int) (hr2 : Row1 .u8 w a2 n2 os) (hcap2 : n2 ≤ c2) (q0 : Int) (q00 : 0 ≤ q0) (q01 : q0 ≤ 255) (q1 : Int) (q10 : 0 ≤ q1) (q11 : q1 ≤ 255) (q2 : Int) (q20 : 0 ≤ q2) (q21 : q2 ≤ 255) (hbad : 12 < n) :
    Calls Try.prog 6 #[.slice a n c, .slice a2 n2 c2, .agg #[.int .u8 q0, .int .u8 q1, .int .u8 q2]] w fun e w' => e = .returned (.bool true) ∧ Below w.heap.size w w' := by
  have LV := Lib.hid (fun (W : World) => lives22 W)
  have hm1 := hr.2.1
  have hm2 := hr2.2.1
  unfold maxLen at hm1 hm2
  have e0 : ((n : Int) == 0) = false := by simp; omega
  have e1 : (12 : Int) < n := by omega
  clear hr hr2 hbad
  go_enter Try.func6, Try.ntmps6
  go_wp2_with fail
  go_quiet (fail)
  obtain ⟨W1, hW1⟩ : ∃ W1, W1 = (w.alloc (.cells #[.int .u8 q0, .int .u8 q1, .int .u8 q2] 72)).drewN nq := ⟨_, rfl⟩
  have hb1 : Below w.heap.size w W1 := by rw [hW1]; exact below_drewN _ ((Below.refl _ w).alloc (Nat.le_refl _) _)
  rw [← hW1]
  clear hW1
  have HB1 := Lib.hid hb1
  clear hb1
  go_wp2_with fail
  refine (LV.out _).mono ?_
  rintro e W2 ⟨rfl, hb2⟩
  have HB2 := Lib.hid (HB1.out.trans (hb2.mono HB1.out.size))
  clear hb2
  go_wp2
  go_ret
  exact ⟨rfl, HB2.out⟩
set_option maxRecDepth 100000 in
set_option maxHeartbeats 4000000 in
theorem ticks22_a2 (a : Option Addr) (n c : Nat) (zs : List Int) {w : World} (hr : Row1 .u8 w a n zs) (hcap : n ≤ c) (a2 : Option Addr) (n2 c2 : Nat) (os : List Int) (hr2 : Row1 .u8 w a2 n2 os) (hcap2 : n2 ≤ c2) (q0 : Int) (q00 : 0 ≤ q0) (q01 : q0 ≤ 255) (q1 : Int) (q10 : 0 ≤ q1) (q11 : q1 ≤ 255) (q2 : Int) (q20 : 0 ≤ q2) (q21 : q2 ≤ 255) (hbad : n2 < n) (h2 : n ≤ 12) :
    Calls Try.prog 6 #[.slice a n c, .slice a2 n2 c2, .agg #[.int .u8 q0, .int .u8 q1, .int .u8 q2]] w fun e w' => e = .returned (.bool true) ∧ Below w.heap.size w w' := by
  have LV := Lib.hid (fun (W : World) => lives22 W)
  have hm1 := hr.2.1
  have hm2 := hr2.2.1
  unfold maxLen at hm1 hm2
  have e0 : ((n : Int) == 0) = false := by simp; omega
  have e1 : ¬ (12 : Int) < n := by omega
  have e2 : (n2 : Int) < n := by omega
  clear hr hr2 hbad
  go_enter Try.func6, Try.ntmps6
  go_wp2_with fail
  go_quiet (fail)
  obtain ⟨W1, hW1⟩ : ∃ W1, W1 = (w.alloc (.cells #[.int .u8 q0, .int .u8 q1, .int .u8 q2] 72)).drewN nq := ⟨_, rfl⟩
  have hb1 : Below w.heap.size w W1 := by rw [hW1]; exact below_drewN _ ((Below.refl _ w).alloc (Nat.le_refl _) _)
  rw [← hW1]
  clear hW1
  have HB1 := Lib.hid hb1
  clear hb1
  go_wp2_with fail
  refine (LV.out _).mono ?_
  rintro e W2 ⟨rfl, hb2⟩
  have HB2 := Lib.hid (HB1.out.trans (hb2.mono HB1.out.size))
  clear hb2
  go_wp2
  go_ret
  exact ⟨rfl, HB2.out⟩
set_option maxRecDepth 100000 in
set_option maxHeartbeats 8000000 in
theorem ticks22_b (a : Option Addr) (n c : Nat) (zs : List Int) {w : World} (hr : Row1 .u8 w a n zs) (hcap : n ≤ c) (a2 : Option Addr) (n2 c2 : Nat) (os : List Int) (hr2 : Row1 .u8 w a2 n2 os) (hcap2 : n2 ≤ c2) (q0 : Int) (q00 : 0 ≤ q0) (q01 : q0 ≤ 255) (q1 : Int) (q10 : 0 ≤ q1) (q11 : q1 ≤ 255) (q2 : Int) (q20 : 0 ≤ q2) (q21 : q2 ≤ 255) (h1 : 1 ≤ n) (h2 : n ≤ 12) (h3 : n ≤ n2) :
    Calls Try.prog 6 #[.slice a n c, .slice a2 n2 c2, .agg #[.int .u8 q0, .int .u8 q1, .int .u8 q2]] w fun e w' => e = .returned (.bool true) ∧ Below w.heap.size w w' := by
  have LV := Lib.hid (fun (W : World) => lives22 W)
  have hm1 := hr.2.1
  have hm2 := hr2.2.1
  unfold maxLen at hm1 hm2
  have e0 : ((n : Int) == 0) = false := by simp; omega
  have e1 : decide ((12 : Int) < n) = false := decide_eq_false (by omega)
  have e2 : decide ((n2 : Int) < n) = false := decide_eq_false (by omega)
  have e3 : decide (n2 < n) = false := decide_eq_false (by omega)
  have e4 : decide (12 < n) = false := decide_eq_false (by omega)
  obtain ⟨i0, hi0, hz0, hz1, hz2⟩ := info_parts infoSl
  obtain ⟨j0, hj0, hy0, hy1, hy2⟩ := info_parts infoU8
  obtain ⟨F, hF⟩ : ∃ F, plan22 zs os n = F := ⟨_, rfl⟩
  have HOK := Lib.hid (hF ▸ plan22_ok zs os h1 h2)
  have HTAKE := Lib.hid (fun (i : Nat) (hi : i < n) => hF ▸ plan22_take zs os hi)
  have HAT := Lib.hid (fun (i : Nat) (hi : i < n) => hF ▸ plan22_at zs os hi)
  have HLE := Lib.hid (hF ▸ plan22_le zs os (n := n))
  have HLEN : Hid (F.length = n) := Lib.hid (hF ▸ plan22_len zs os n)
  have C1 := Lib.hid (fun (W : World) (h : Below w.heap.size w W) (i : Nat) (hi : i < n) => hr.at1 h i hi)
  have C2 := Lib.hid (fun (W : World) (h : Below w.heap.size w W) (i : Nat) (hi : i < n) => hr2.at1 h i (by omega))
  have U1 := Lib.hid (hr.u8)
  have U2 := Lib.hid (hr2.u8)
  have HOKX : Hid (∀ x ∈ F, x.ok) := Lib.hid (by rw [← hF]; exact plan22_okx hr.u8 hr2.u8)
  clear hr hr2 hF
  go_enter Try.func6, Try.ntmps6
  go_wp2_with fail
  go_quiet (fail)
  obtain ⟨W1, hW1⟩ : ∃ W1, W1 = (w.alloc (.cells #[.int .u8 q0, .int .u8 q1, .int .u8 q2] 72)).drewN nq := ⟨_, rfl⟩
  have hb1 : Below w.heap.size w W1 := by rw [hW1]; exact below_drewN _ ((Below.refl _ w).alloc (Nat.le_refl _) _)
  rw [← hW1]
  clear hW1
  have HB1 := Lib.hid hb1
  clear hb1
  have T0 : Hid (Tk22 w (W1.alloc (.cells #[.slice none 0 0] 71)) W1.heap.size (.slice none 0 0) (.slice none 0 0) (F.take 0) (tk22 F 0)) :=
    Lib.hid ⟨HB1.out.size, heap_alloc_new W1 _, NR.nil _ _ _ _, World.ownsRow_nil _ _ _ _, HB1.out.alloc HB1.out.size _⟩
  obtain ⟨Bt, hBt⟩ : ∃ Bt, Bt = W1.heap.size := ⟨_, rfl⟩
  have HBt := Lib.hid hBt
  rw [← hBt] at T0
  clear hBt
  go_wp2
  rw [← HBt.out]
  go_loopw [10, 53] (fun x y wr => ∃ (i : Nat) (lv tv : Value), lv = x ∧ y = .int .i64 i ∧ i ≤ n ∧ Tk22 w wr Bt lv tv (F.take i) (tk22 F i)) (fun _ y _ => n - (intOf y).toNat)
  case atStart => exact ⟨0, _, _, rfl, rfl, Nat.zero_le _, T0.out⟩
  case round =>
    clear T0
    obtain ⟨i, lv, tv, rfl, rfl, hi, hT⟩ := hrel
    have z0 : (0 : Int) ≤ i := by omega
    by_cases hlt : i < n
    · have z1 : (i : Int) < n := by omega
      have z2 : (i : Int) < n2 := by omega
      obtain ⟨b, off, rfl, ca⟩ := C1.out wr hT.b i hlt
      obtain ⟨b2, off2, rfl, cb⟩ := C2.out wr hT.b i hlt
      obtain ⟨u0, u1⟩ := U1.out i
      obtain ⟨v0, v1⟩ := U2.out i
      have hta := HTAKE.out i hlt
      have hat := HAT.out i hlt
      obtain ⟨sp, hsp⟩ : ∃ sp, zs.getD i 0 = sp := ⟨_, rfl⟩
      obtain ⟨op, hop⟩ : ∃ op, os.getD i 0 = op := ⟨_, rfl⟩
      rw [hsp] at ca u0 u1 hta hat
      rw [hop] at cb v0 v1 hta hat
      have HOP := Lib.hid hop
      obtain ⟨md, hmd⟩ : ∃ md, sp % 10 = md := ⟨_, rfl⟩
      have m0 : 0 ≤ md ∧ md ≤ 9 := by omega
      have hmt : sp.tmod 10 = md := by rw [Int.tmod_eq_emod_of_nonneg u0]; exact hmd
      rw [hmd] at hta hat
      obtain ⟨S, hS⟩ : ∃ S, md + 1 = S := ⟨_, rfl⟩
      rw [hS] at hta hat
      have HT := Lib.hid hT
      have hlen : (F.take i).length = i := by rw [List.length_take, HLEN.out]; omega
      have HTA := Lib.hid hta; have HA := Lib.hid hat
      obtain ⟨m0, m1⟩ := m0
      clear hT hsp hop hmd hta hat
      have HLN := Lib.hid hlen
      clear hlen
      have hbs := Lib.hid HT.out.b.size
      have HAo : Hid ((wr.alloc (.cells #[.int .u8 op, .int .u64 S] 67)).ownsRow w.heap.size 67 2 lv i ((F.take i).flatMap Slot22.cells)) := Lib.hid (by have h9 := own_later HT.out.sl ((Below.refl _ wr).alloc (Nat.le_refl _) (.cells #[.int .u8 op, .int .u64 S] 67)); rw [HLN.out] at h9; exact h9)
      have HCo : Hid (∀ j u, [Value.int .u8 op, .int .u64 S][j]? = some u → (wr.alloc (.cells #[.int .u8 op, .int .u64 S] 67)).cell? ((⟨wr.heap.size, 0, none⟩ : Addr).add j) = some u) := Lib.hid (World.news_of_block (heap_alloc_new wr (.cells #[.int .u8 op, .int .u64 S] 67)))
      have HOo : Hid (∀ u ∈ [Value.int .u8 op, .int .u64 S], u.oneCell' = true) := Lib.hid (fun x hx => by simp at hx; rcases hx with rfl | rfl <;> rfl)
      have hm9 : i + 1 ≤ maxLen := by unfold maxLen; omega
      have HM9 := Lib.hid hm9
      have HB9 : Hid (w.heap.size ≤ (wr.alloc (.cells #[.int .u8 op, .int .u64 S] 67)).heap.size) := Lib.hid (Nat.le_trans hbs.out (by simp))
      clear hm9
      go_wp2_with (first
        | (at_builtin; refine wpList_append_own_at _ rfl _ _ 53 rfl w.heap.size 67 i0 (.agg #[.int .u8 0, .int .u64 0]) 2 16 Try.underlying53 hi0 hz0 hz1 hz2 rfl (by decide) lv i _ rfl HAo.out ⟨wr.heap.size, 0, none⟩ 1 1 [.int .u8 op, .int .u64 S] rfl rfl HCo.out HOo.out HM9.out (by omega) HB9.out ?_; intro lv' w1 ho1 hg1 _ _; have T1 := Lib.hid ((HT.out.later ((Below.refl _ wr).alloc (Nat.le_refl _) _)).one (x := ⟨op, S⟩) hg1 (by rw [HLN.out]; exact ho1)); clear ho1 hg1)
        | fail)
      rw [← HTA.out] at T1
      clear HAo HCo HOo HM9 HB9 ca
      have hlk := tk22_len HOK.out.2 i hi
      have hsl := HLE.out i hi
      have LKS := Lib.hid (show (tk22 F i).length ≤ 120 by omega)
      clear hlk hsl
      obtain ⟨wo, rfl⟩ : ∃ x, x = wr := ⟨_, rfl⟩
      go_loopw [72] (fun y wi => ∃ (m : Nat) (tv : Value), y = .int .u64 m ∧ (m : Int) ≤ S ∧ Tk22 w wi Bt lv' tv (F.take (i + 1)) (tk22 F i ++ List.replicate m op)) (fun y _ => (S - intOf y).toNat)
      case atStart => exact ⟨0, tv, rfl, by omega, by rw [List.replicate_zero, List.append_nil]; exact T1.out⟩
      case round =>
        clear T1
        obtain ⟨m, tw, rfl, hm, hI⟩ := hrel
        have y0 : (0 : Int) ≤ m := by omega
        by_cases hmS : (m : Int) < S
        · obtain ⟨b2', off2', e2', cb'⟩ := C2.out wr hI.b i hlt
          injection e2' with e2'
          injection e2' with e21 e22 e23
          subst e21 e22
          rw [HOP.out] at cb'
          obtain ⟨ta, tc, etw, -, -⟩ := hI.tk.form
          subst etw
          obtain ⟨ts, hts⟩ : ∃ ts, tk22 F i ++ List.replicate m op = ts := ⟨_, rfl⟩
          have htl : ts.length ≤ 130 := by rw [← hts, List.length_append, List.length_replicate]; have := LKS.out; omega
          rw [hts] at hI
          obtain ⟨N, hN⟩ : ∃ N, ts.length = N := ⟨_, rfl⟩
          rw [hN] at hI htl
          have HI := Lib.hid hI
          obtain ⟨c0, f0⟩ := at1 hI.box
          have hBl : Bt < wr.heap.size := lt_blk hI.box
          have hb2l : b2 < wr.heap.size := block_lt cb'
          have HTS := Lib.hid hts
          have HNN := Lib.hid hN
          have hbz := hI.b.size
          have KB := Lib.hid (fun (W w3 : World) (hg' : W.grownBy w3 (Value.slice ta N tc).ownBlock) (eh : W.heap = (wr.alloc (.cells #[.int .u8 op] 5)).heap) (eo : W.os = wr.os) (et : W.tape = wr.tape) (ep : W.output = wr.output) =>
            have hg : (wr.alloc (.cells #[.int .u8 op] 5)).grownBy w3 (Value.slice ta N tc).ownBlock := ⟨hg'.os.trans eo, hg'.tape.trans et, hg'.output.trans ep, by rw [← eh]; exact hg'.size, by rw [← eh]; exact hg'.block⟩
            have e2 : w3.heap[Bt]? = some (.cells #[.slice ta N tc] 71 (0, 0)) := blk_grown hg (fun e => HI.out.tk.ne HI.out.box (by decide) e) (blk_old HI.out.box)
            (⟨(at1 e2).1, (at1 e2).2, Lib.hid hg⟩ : w3.cell? ⟨Bt, 0, none⟩ = some (.slice ta N tc) ∧ w3.frozen? ⟨Bt, 0, none⟩ = false ∧ Hid ((wr.alloc (.cells #[.int .u8 op] 5)).grownBy w3 (Value.slice ta N tc).ownBlock)))
          have OE := Lib.hid (fun (W : World) (eh : W.heap = (wr.alloc (.cells #[.int .u8 op] 5)).heap) => show W.ownsRow w.heap.size 5 1 (.slice ta N tc) N (ts.map (Value.int .u8)) by
            have ho : (wr.alloc (.cells #[.int .u8 op] 5)).ownsRow w.heap.size 5 1 (.slice ta N tc) N (ts.map (Value.int .u8)) := by have := HI.out.tk.alloc (.cells #[.int .u8 op] 5); unfold NR at this; rw [HNN.out] at this; exact this
            unfold World.ownsRow at ho ⊢
            rw [eh]; exact ho)
          have NW := Lib.hid (fun (W : World) (eh : W.heap = (wr.alloc (.cells #[.int .u8 op] 5)).heap) => World.news_of_block (w := W) (B := wr.heap.size) (by rw [eh]; exact heap_alloc_new wr _))
          have OC := Lib.hid (show ∀ y ∈ ([.int .u8 op] : List Value), y.oneCell' = true from fun y hy => by simp at hy; subst hy; rfl)
          have KC := Lib.hid (fun (o : Obj) => show (wr.alloc o).cell? ⟨Bt, 0, none⟩ = some (.slice ta N tc) ∧ (wr.alloc o).cell? ⟨b2, off2 + i, none⟩ = some (.int .u8 op) from ⟨(World.cell?_alloc_lt wr o _ hBl).trans c0, (World.cell?_alloc_lt wr o _ hb2l).trans cb'⟩)
          have m63 : N + 1 ≤ maxLen := by unfold maxLen; omega
          have mby : (N + 1) * 1 ≤ 140737488355328 := by omega
          have mba : w.heap.size ≤ wr.heap.size + 1 := by omega
          have HM63 := Lib.hid m63; have HMBY := Lib.hid mby; have HMBA := Lib.hid mba
          clear hI hts hN m63 mby mba hbz
          go_wp2
          go_region_law
            ((refine step_append_lies _ (by rfl) _ _ 71 (by rfl) w.heap.size 5 j0 (.int .u8 0) 1 1 Try.underlying71 hj0 hy0 hy1 hy2 (by rfl) (by decide) (.slice ta N tc) N (ts.map (Value.int .u8)) (by rfl) (OE.out _ rfl) ⟨wr.heap.size, 0, none⟩ 1 1 [.int .u8 op] (by rfl) (by rfl) (NW.out _ rfl) OC.out (by decide) HM63.out HMBY.out (by first | exact HMBA.out | (simp; exact HMBA.out)) _ rfl ?_; intro g cap w3 hown3 hgrow3 hat3 hlt3; obtain ⟨d1, d2, HG3⟩ := KB.out _ w3 hgrow3 rfl rfl rfl rfl))
          all_goals
            have FIN := Lib.hid ((HI.out.later ((Below.refl _ wr).alloc (Nat.le_refl _) _)).two (x := op) HG3.out (by rw [HNN.out]; exact hown3))
            rw [← HTS.out, List.append_assoc, ← List.replicate_succ'] at FIN
            clear hown3 hgrow3 hat3 hlt3 HG3 KB OE NW KC d1 d2 OC HM63 HMBY HMBA HI
            go_wp2
            go_roundw
            case rel => exact ⟨m + 1, _, by go_num, by omega, FIN.out⟩
            case measure => simp [intOf] <;> omega
        · have hmE : (m : Int) = S := by omega
          have hfin : tk22 F i ++ List.replicate m op = tk22 F (i + 1) := by
            simp only [tk22]
            rw [HA.out]
            dsimp only
            rw [show S.toNat = m by omega]
          rw [hfin] at hI
          have HI := Lib.hid hI
          clear hI hfin hmE
          go_wp2
          go_roundw
          case rel => exact ⟨i + 1, lv', tw, rfl, by go_num, hlt, HI.out⟩
          case measure => simp [intOf] <;> omega
    · obtain rfl : i = n := by omega
      have e9 : F.take i = F := List.take_of_length_le (by rw [HLEN.out]; exact Nat.le_refl _)
      rw [e9] at hT
      obtain ⟨la, lc, elv, hlc, -⟩ := hT.row (by rw [HLEN.out]; unfold maxLen; omega) HOKX.out
      rw [HLEN.out] at elv
      subst elv
      obtain ⟨ta, tc, etv, htc, -⟩ := hT.tk.form
      obtain ⟨R, hR⟩ : ∃ R : Nat, (tk22 F i).length = R := ⟨_, rfl⟩
      have hRS := tk22_len HOK.out.2 i (Nat.le_refl _)
      rw [hR] at etv hRS
      subst etv
      have hRle := HLE.out i (Nat.le_refl _)
      obtain ⟨rp0, -⟩ := round_pos HOK.out
      rw [← hRS] at hRle rp0
      have R1 : 1 ≤ R := by omega
      have R2 : R ≤ 120 := by omega
      have HRS : Hid (spans F i = R) := Lib.hid hRS.symm
      have HT := Lib.hid hT
      clear hT hRS hR e9 U1 U2 C1 C2 HTAKE HAT HLE
      obtain ⟨k, hk⟩ : ∃ k : Nat, q0 % 8 = k := ⟨(q0 % 8).toNat, by omega⟩
      have k7 : k ≤ 7 := by omega
      have ek : q0.tmod 8 = k := by rw [Int.tmod_eq_emod_of_nonneg q00]; exact hk
      have kz : (0 : Int) ≤ k := by omega
      have kz7 : (k : Int) ≤ 7 := by omega
      obtain ⟨N0, hN0⟩ : ∃ N0 : Nat, q2 % 30 = N0 := ⟨(q2 % 30).toNat, by omega⟩
      have eN0 : q2.tmod 30 = N0 := by rw [Int.tmod_eq_emod_of_nonneg q20]; exact hN0
      have n29 : N0 ≤ 29 := by omega
      have nz : (0 : Int) ≤ N0 := by omega
      have nz29 : (N0 : Int) ≤ 29 := by omega
      obtain ⟨N, hN⟩ : ∃ N : Int, (N0 : Int) + 1 = N := ⟨_, rfl⟩
      have hNb : 1 ≤ N ∧ N ≤ 30 := by omega
      obtain ⟨N1, N2⟩ := hNb
      clear hk hN0
      have hsz := HT.out.b.size
      have hBl := lt_blk HT.out.box
      obtain ⟨c0, f0⟩ := at1 HT.out.box
      have E0 : Hid (Env22 w (wr.alloc (.cells #[.int .i64 k] 3)) Bt wr.heap.size la i lc ta R tc F k) := Lib.hid ⟨HT.out.later ((Below.refl _ wr).alloc (Nat.le_refl _) _), heap_alloc_new wr _⟩
      obtain ⟨Bc, hBc⟩ : ∃ Bc, Bc = wr.heap.size := ⟨_, rfl⟩
      have HBc := Lib.hid hBc
      rw [← hBc] at E0
      clear hBc HT
      go_wp2
      have f21 : (2 : Int) * R ≤ 240 := by omega
      obtain ⟨W5, hW5⟩ : ∃ W5, W5 = wr.alloc (.cells #[.int .i64 k] 3) := ⟨_, rfl⟩
      rw [← hW5] at E0 ⊢
      rw [← HBc.out]
      clear hW5 c0 f0 hBl hsz HBc HBt
      obtain ⟨g, eta, -, -⟩ := E0.out.cellT HOK.out HRS.out (k := 0) (by omega)
      subst eta
      have EV := Lib.hid (fun (V : World) (h : Below W5.heap.size W5 V) => E0.out.later h)
      have hk0 : ∃ k0, InSlot F i (q1 % spans F i) k0 := slot_is (Int.emod_nonneg _ (by rw [HRS.out]; omega)) (Int.emod_lt_of_pos _ (by rw [HRS.out]; omega))
      obtain ⟨k0, hk0⟩ := hk0
      obtain ⟨jS, vS, bS, hS⟩ := stays_ex (cl := k) HOK.out hk0 (spans F i)
      obtain ⟨jN, bN, gN, hN⟩ := next_ex (cl := k) HOK.out hk0 (spans F i) (min (max N 1) (spans F i)) (by rw [HRS.out]; omega) (by rw [HRS.out]; omega)
      have hNT := next_ticks HOK.out hk0 N1 (by rw [show max N 1 = N by omega] at hN; exact hN)
      obtain ⟨top, vN, hTop⟩ : ∃ top vN : Int, (bN = true ∧ top = q1 + gN ∧ vN = q1 + gN ∧ 0 ≤ gN ∧ gN < R ∧ OpFor F i k N top ∧ ∀ y, q1 ≤ y → y < top → NoFor F i k N y) ∨ (bN = false ∧ top = q1 + 2 * R + 1 ∧ vN = 0 ∧ ∀ y, q1 ≤ y → y < top → NoFor F i k N y) := by
        rcases hNT with ⟨h1, h2, h3, h4, h5⟩ | ⟨h1, h2⟩
        · rw [HRS.out] at h3
          exact ⟨q1 + gN, q1 + gN, Or.inl ⟨h1, rfl, rfl, h2, h3, h4, fun y y0 y1 => by have := h5 (y - q1) (by omega) (by omega); rwa [show q1 + (y - q1) = y by omega] at this⟩⟩
        · exact ⟨q1 + 2 * R + 1, 0, Or.inr ⟨h1, rfl, rfl, fun y y0 y1 => by have := h2 (y - q1) (by omega); rwa [show q1 + (y - q1) = y by omega] at this⟩⟩
      have NX := Lib.hid (fun (V : World) (h : Below W5.heap.size W5 V) => gnext22 (c := lc) (v := vN) (rb := bN) ((EV.out V h).row HLEN.out h2 HOKX.out) HOK.out k k7 q1 q10 (by omega) N (by omega) (by omega) hk0 hN (by
        rcases hTop with ⟨h1, h2, h3, h4, h5, -⟩ | ⟨h1, h2, h3, -⟩
        · exact Or.inl ⟨h1, by omega, h3, h1⟩
        · exact Or.inr (Or.inr ⟨h1, h3, h1⟩)))
      have SX := Lib.hid (fun (V : World) (h : Below W5.heap.size W5 V) => gstays22 (c := lc) ((EV.out V h).row HLEN.out h2 HOKX.out) HOK.out k k7 q1 q10 (by omega) hk0 hS)
      have RX := Lib.hid (fun (V : World) (h : Below W5.heap.size W5 V) => ((by rw [← HRS.out]; exact ground22 ((EV.out V h).row HLEN.out h2 HOKX.out) lc HOK.out) : Calls Try.prog 30 #[.slice la i lc] V fun e w' => e = .returned (.int .u64 R) ∧ Below V.heap.size V w'))
      have IX := Lib.hid (fun (V : World) (h : Below W5.heap.size W5 V) (x : Int) (b : Bool) (hb : OpAt F i k x b) (x0 : 0 ≤ x) (x1 : x ≤ 1000000) => (EV.out V h).is HOK.out HRS.out (by omega) k7 HOKX.out HLEN.out hb x0 x1)
      have OX := Lib.hid (fun (V : World) (h : Below W5.heap.size W5 V) (x : Int) (x0 : 0 ≤ x) (x1 : x ≤ 1000) (q : Nat) (hq : x % R = q) => ((by
        obtain ⟨q', o', h1, h2, h3, -, -, h6⟩ := (EV.out V h).opens HOK.out HRS.out h2 HOKX.out HLEN.out x0 (by omega)
        obtain rfl : q' = q := by omega
        rw [h3]
        exact h6) : Calls Try.prog 31 #[.slice la i lc, .int .u64 x] V fun e w' => e = .returned (.int .u8 ((tk22 F i).getD q 0)) ∧ Below V.heap.size V w'))
      have CX := Lib.hid (fun (V : World) (h : Below W5.heap.size W5 V) => (at1 (EV.out V h).t.box))
      have DX := Lib.hid (fun (V : World) (h : Below W5.heap.size W5 V) => (at1 (EV.out V h).c).1)
      have TX := Lib.hid (fun (V : World) (h : Below W5.heap.size W5 V) (q : Nat) (hq : q < R) => ((by
        obtain ⟨g', e', -, hc'⟩ := (EV.out V h).cellT HOK.out HRS.out hq
        injection e' with e'
        injection e' with e'
        subst e'
        exact hc') : V.cell? ⟨g, q, none⟩ = some (.int .u8 ((tk22 F i).getD q 0))))
      have WB := Lib.hid E0.out.t.b
      have STK : Hid (bS = true → 0 ≤ vS ∧ vS < R ∧ OpAt F i k (q1 + vS) false ∧ ∀ y, 0 ≤ y → y < vS → OpAt F i k (q1 + y) true) := Lib.hid (fun hb => by rw [hb] at hS; have := stays_ticks HOK.out hk0 hS; rw [HRS.out] at this; exact this)
      have ONE := Lib.hid (fun (x : Int) (b c : Bool) (h1 : OpAt F i k x b) (h2 : OpAt F i k x c) => h1.one HOK.out h2)
      have EX := Lib.hid (fun (x : Int) => OpAt.ex (cl := k) HOK.out x)
      have HTP := Lib.hid hTop
      clear E0 hk0 hS hN hNT hTop i0 hi0 hz0 hz1 hz2 j0 hj0 hy0 hy1 hy2
      go_loopw [6, 96] (fun r y wr => r = .bool false ∧ ∃ t : Nat, y = .int .i64 t ∧ (t : Int) ≤ 2 * R ∧ Below W5.heap.size W5 wr) (fun _ y _ => (2 * R - intOf y).toNat)
      case atStart => exact ⟨rfl, 0, rfl, by omega, Below.refl _ _⟩
      case round =>
        obtain ⟨rfl, t, rfl, ht, hB⟩ := hrel
        have t0 : (0 : Int) ≤ t := by omega
        by_cases hlt : (t : Int) < 2 * R
        · obtain ⟨q, hq⟩ : ∃ q : Nat, (t : Int) % R = q := ⟨((t : Int) % R).toNat, by have := Int.emod_nonneg (t : Int) (show (R : Int) ≠ 0 by omega); omega⟩
          have hql : q < R := by have := Int.emod_lt_of_pos (t : Int) (show (0 : Int) < R by omega); omega
          have hqt : (t : Int).tmod R = q := by rw [Int.tmod_eq_emod_of_nonneg t0]; exact hq
          have HB := Lib.hid hB
          have OC := Lib.hid (fun (V : World) (h : Below W5.heap.size W5 V) => OX.out V h t t0 (by omega) q hq)
          obtain ⟨o, ho⟩ : ∃ o, (tk22 F i).getD q 0 = o := ⟨_, rfl⟩
          have S0 := Lib.hid (fun (v : World) (h : Below W5.heap.size W5 v) => ((by rw [← ho]; exact ⟨(CX.out v h).1, TX.out v h q hql, h⟩) : v.cell? ⟨Bt, 0, none⟩ = some (.slice (some ⟨g, 0, none⟩) R tc) ∧ v.cell? ⟨g, q, none⟩ = some (.int .u8 o) ∧ Below W5.heap.size W5 v))
          simp only [ho] at OC
          have qz : (0 : Int) ≤ q := by omega
          have qz1 : (q : Int) < R := by omega
          have rz : ¬ (R : Int) = 0 := by omega
          have rz2 : ¬ R = 0 := by omega
          have rz3 : ((R : Int) == 0) = false := by simp [rz2]
          have rz4 : ¬ (R : Int) = -1 := by omega
          have hqn : t % R = q := by omega
          have wq : IntKind.i64.wrap (q : Int) = q := by rw [IntKind.wrap_i64]; omega
          have wt : IntKind.u64.wrap (t : Int) = t := by rw [IntKind.wrap_u64]; omega
          clear hB hq ho
          go_upto_region 21 with (fail)
          go_region_held3 (fun v => v.cell? ⟨Bt, 0, none⟩ = some (.slice (some ⟨g, 0, none⟩) R tc) ∧ v.cell? ⟨g, q, none⟩ = some (.int .u8 o) ∧ Below W5.heap.size W5 v)
            ((first | exact S0.out _ BA | exact S0.out _ HB.out.drew))
            (first
            | (go_at_call 31; refine (OC.out _ HB.out.drew).mono ?_; rintro e wA ⟨rfl, hA⟩; have BA := HB.out.drew.trans (hA.mono HB.out.drew.size))
            | fail)
          have HBA := Lib.hid BA
          clear BA hA S0 OC HB
          go_wp2
          go_roundw
          case rel => exact ⟨rfl, t + 1, by go_num, by omega, HBA.out⟩
          case measure => simp [intOf] <;> omega
        · have HB3 := Lib.hid hB
          clear ht hB OX TX
          have f22 : q1 + 2 * (R : Int) ≤ 600 := by omega
          have f23 : 0 ≤ q1 + 2 * (R : Int) := by omega
          go_wp2
          go_loopw [20, 21] (fun x y wr => ∃ f t : Int, x = .int .i64 f ∧ y = .int .i64 t ∧ Below W5.heap.size W5 wr ∧ ((f = -1 ∧ q1 ≤ t ∧ t ≤ top) ∨ (bN = true ∧ f = top ∧ t = top + 1))) (fun _ y _ => (q1 + 2 * R + 3 - intOf y).toNat)
          case atStart => exact ⟨-1, q1, rfl, rfl, HB3.out, Or.inl ⟨rfl, Int.le_refl _, by rcases HTP.out with ⟨-, h1, -, h2, -⟩ | ⟨-, h1, -⟩ <;> omega⟩⟩
          case round =>
            clear HB3
            obtain ⟨f, t, rfl, rfl, hB, hf⟩ := hrel
            obtain ⟨c0, -⟩ := CX.out _ hB
            have htp2 : top ≤ q1 + 2 * R + 1 ∧ 0 ≤ top := by rcases HTP.out with ⟨-, h1, -, h2, h3, -⟩ | ⟨-, h1, -⟩ <;> omega
            obtain ⟨tp0, tp1⟩ := htp2
            rcases hf with ⟨rfl, q1t, tt⟩ | ⟨hbN, rfl, rfl⟩
            · have tz : 0 ≤ t := by omega
              by_cases hin : t ≤ q1 + 2 * R
              · have HB4 := Lib.hid hB
                clear hB
                go_wp2
                clear c0
                obtain ⟨wo2, rfl⟩ : ∃ x, x = wr := ⟨_, rfl⟩
                go_loopw [22, 127] (fun x y wr => ∃ (b : Bool) (m : Nat), x = .bool b ∧ y = .int .i64 m ∧ (m : Int) ≤ N ∧ Below W5.heap.size W5 wr ∧ ((b = true ∧ ∀ j : Int, 0 ≤ j → j < m → OpAt F i k (t + j) true) ∨ (b = false ∧ ∃ j : Int, 0 ≤ j ∧ j < N ∧ OpAt F i k (t + j) false))) (fun _ y _ => (N - intOf y).toNat)
                case atStart => exact ⟨true, 0, rfl, rfl, by omega, HB4.out, Or.inl ⟨rfl, fun j j0 j1 => by omega⟩⟩
                case round =>
                  clear HB4
                  obtain ⟨b, m, rfl, rfl, hm, hB5, hcs⟩ := hrel
                  have HB5 := Lib.hid hB5
                  clear hB5
                  have HCS := Lib.hid hcs
                  clear hcs
                  have mz0 : (0 : Int) ≤ m := by omega
                  by_cases hmN : (m : Int) < N
                  · cases hb : b with
                    | true =>
                      obtain ⟨b', hb'⟩ := EX.out (t + m)
                      obtain ⟨x, hx⟩ : ∃ x, t + (m : Int) = x := ⟨_, rfl⟩
                      have ic := Lib.hid (IX.out _ HB5.out (t + m) b' hb' (by omega) (by omega))
                      rw [hx] at ic
                      have hxb : 0 ≤ x ∧ x ≤ 1000 := by omega
                      obtain ⟨xb0, xb1⟩ := hxb
                      have HBB := Lib.hid hb'
                      clear hb'
                      go_wp2_with fail
                      refine (ic.out).mono ?_
                      rintro e WA ⟨rfl, hA⟩
                      have HBA := Lib.hid (HB5.out.trans (hA.mono HB5.out.size))
                      clear hA
                      go_wp2
                      go_roundw
                      case rel =>
                        refine ⟨b', m + 1, rfl, by go_num, by omega, HBA.out, ?_⟩
                        rcases HCS.out with ⟨-, h1⟩ | ⟨h1, -⟩
                        · cases hbb : b' with
                          | true =>
                            refine Or.inl ⟨rfl, fun j j0 j1 => ?_⟩
                            by_cases ej : j = m
                            · rw [ej]; have h9 := HBB.out; rw [hbb] at h9; exact h9
                            · exact h1 j j0 (by omega)
                          | false =>
                            have h9 := HBB.out
                            rw [hbb] at h9
                            exact Or.inr ⟨rfl, m, by omega, hmN, h9⟩
                        · rw [hb] at h1; cases h1
                      case measure => simp [intOf] <;> omega
                    | false =>
                      go_wp2
                      go_roundw
                      case rel =>
                        refine ⟨false, m + 1, rfl, by go_num, by omega, HB5.out, ?_⟩
                        rcases HCS.out with ⟨h1, -⟩ | ⟨-, h1⟩
                        · rw [hb] at h1; cases h1
                        · exact Or.inr ⟨rfl, h1⟩
                      case measure => simp [intOf] <;> omega
                  · have hmE : (m : Int) = N := by omega
                    cases hb : b with
                    | true =>
                      have hop : OpFor F i k N t := fun j j0 j1 => by
                        rcases HCS.out with ⟨-, h1⟩ | ⟨h1, -⟩
                        · exact h1 j j0 (by omega)
                        · rw [hb] at h1; cases h1
                      have htt : bN = true ∧ t = top := by
                        by_cases e : t < top
                        · exfalso
                          have hno : NoFor F i k N t := by
                            rcases HTP.out with ⟨-, -, -, -, -, -, h1⟩ | ⟨-, -, -, h1⟩
                            · exact h1 t q1t e
                            · exact h1 t q1t e
                          obtain ⟨j, j0, j1, h2⟩ := hno
                          have := ONE.out _ _ _ (hop j j0 j1) h2
                          cases this
                        · rcases HTP.out with ⟨h1, -⟩ | ⟨-, h1, -⟩
                          · exact ⟨h1, by omega⟩
                          · omega
                      obtain ⟨hbN, rfl⟩ := htt
                      have HOP := Lib.hid hop
                      clear hop
                      go_wp2
                      go_roundw
                      case rel => exact ⟨t, t + 1, rfl, rfl, HB5.out, Or.inr ⟨hbN, rfl, rfl⟩⟩
                      case measure => simp [intOf] <;> omega
                    | false =>
                      have hno : ∃ j : Int, 0 ≤ j ∧ j < N ∧ OpAt F i k (t + j) false := by
                        rcases HCS.out with ⟨h1, -⟩ | ⟨-, h1⟩
                        · rw [hb] at h1; cases h1
                        · exact h1
                      have htt : t < top := by
                        by_cases e : t < top
                        · exact e
                        · exfalso
                          rcases HTP.out with ⟨-, -, -, -, -, h1, -⟩ | ⟨-, h1, -⟩
                          · obtain ⟨j, j0, j1, h2⟩ := hno
                            have h3 := h1 j j0 j1
                            rw [show top = t by omega] at h3
                            have := ONE.out _ _ _ h3 h2
                            cases this
                          · omega
                      clear hno
                      go_wp2
                      go_roundw
                      case rel => exact ⟨-1, t + 1, rfl, rfl, HB5.out, Or.inl ⟨rfl, by omega, by omega⟩⟩
                      case measure => simp [intOf] <;> omega
              · obtain ⟨hbN, hvN⟩ : bN = false ∧ vN = 0 := by
                  rcases HTP.out with ⟨-, h1, -, h2, h3, -⟩ | ⟨h1, -, h2, -⟩
                  · omega
                  · exact ⟨h1, h2⟩
                subst hbN hvN
                clear HTP
                have HB0 := Lib.hid hB
                clear hB
                have d0 := DX.out _ HB0.out
                go_wp2_with fail
                refine (NX.out _ HB0.out).mono ?_
                rintro e W7 ⟨rfl, hb7⟩
                have HB7 := Lib.hid (HB0.out.trans (hb7.mono HB0.out.size))
                have d7 := DX.out _ HB7.out
                clear hb7 d0
                go_wp2_with fail
                refine (SX.out _ HB7.out).mono ?_
                rintro e W8 ⟨rfl, hb8⟩
                have HB8 := Lib.hid (HB7.out.trans (hb8.mono HB7.out.size))
                clear hb8 d7
                cases hbS : bS with
                | false =>
                  have S0 := Lib.hid (fun (v : World) (h : Below W5.heap.size W5 v) => (⟨(CX.out v h).1, h⟩ : v.cell? ⟨Bt, 0, none⟩ = some (.slice (some ⟨g, 0, none⟩) R tc) ∧ Below W5.heap.size W5 v))
                  have wr1 : IntKind.u64.wrap (R : Int) = R := by rw [IntKind.wrap_u64]; omega
                  have wr2 : ((R : Int) == R) = true := by simp
                  go_upto_region 41 with (fail)
                  go_region_held3 (fun v => v.cell? ⟨Bt, 0, none⟩ = some (.slice (some ⟨g, 0, none⟩) R tc) ∧ Below W5.heap.size W5 v)
                    ((first | exact S0.out _ BC | exact S0.out _ BA | exact S0.out _ HB8.out.drew))
                    (first
                    | (go_at_call 24; refine (LV.out _).mono ?_; rintro e wC ⟨rfl, hC⟩; have BC := BA.trans (hC.mono BA.size))
                    | (go_at_call 30; refine (RX.out _ HB8.out.drew).mono ?_; rintro e wA ⟨rfl, hA⟩; have BA := HB8.out.drew.trans (hA.mono HB8.out.drew.size))
                    | fail)
                  have HBC := Lib.hid BC
                  clear BC BA hC hA S0
                  go_wp2
                  go_ret
                  exact ⟨rfl, WB.out.trans (HBC.out.mono WB.out.size)⟩
                | true =>
                  obtain ⟨v0, v1, hno, hyes⟩ := STK.out hbS
                  have HNO := Lib.hid hno; have HYES := Lib.hid hyes
                  obtain ⟨vn, hvn⟩ : ∃ vn : Nat, vS = vn := ⟨vS.toNat, by omega⟩
                  subst hvn
                  have mn1 : min (vn : Int) 500 = vn := by omega
                  have mn2 : ¬ (500 : Int) < vn := by omega
                  have mn3 : ¬ (500 : Int) ≤ vn := by omega
                  have mn4 : (vn : Int) ≤ 500 := by omega
                  have mn5 : (vn : Int) < 500 := by omega
                  have mn6 : min vn 500 = vn := by omega
                  have vz : vn ≤ 120 := by omega
                  clear hno hyes STK
                  go_wp2
                  go_loopw [186] (fun y wr => ∃ m : Nat, y = .int .i64 m ∧ m ≤ vn ∧ Below W5.heap.size W5 wr) (fun y _ => vn - (intOf y).toNat)
                  case atStart => exact ⟨0, rfl, Nat.zero_le _, HB8.out⟩
                  case round =>
                    obtain ⟨m, rfl, hm, hB9⟩ := hrel
                    have HB9 := Lib.hid hB9
                    clear hB9
                    by_cases hmv : m < vn
                    · have mz : (m : Int) < vn := by omega
                      obtain ⟨x, hx⟩ : ∃ x, q1 + (m : Int) = x := ⟨_, rfl⟩
                      have ic := Lib.hid (IX.out _ HB9.out (q1 + m) true (HYES.out m (by omega) (by omega)) (by omega) (by omega))
                      rw [hx] at ic
                      have hxb : 0 ≤ x ∧ x ≤ 1000 := by omega
                      obtain ⟨xb0, xb1⟩ := hxb
                      go_wp2_with fail
                      refine (ic.out).mono ?_
                      rintro e WA ⟨rfl, hA⟩
                      have HBA := Lib.hid (HB9.out.trans (hA.mono HB9.out.size))
                      clear hA
                      go_wp2
                      go_roundw
                      case rel => exact ⟨m + 1, by go_num, hmv, HBA.out⟩
                      case measure => simp [intOf] <;> omega
                    · obtain rfl : m = vn := by omega
                      obtain ⟨x, hx⟩ : ∃ x, q1 + (m : Int) = x := ⟨_, rfl⟩
                      have ic := Lib.hid (IX.out _ HB9.out (q1 + m) false HNO.out (by omega) (by omega))
                      rw [hx] at ic
                      have hxb : 0 ≤ x ∧ x ≤ 1000 := by omega
                      obtain ⟨xb0, xb1⟩ := hxb
                      have mz : ¬ (m : Int) < m := by omega
                      go_wp2_with fail
                      refine (ic.out).mono ?_
                      rintro e WA ⟨rfl, hA⟩
                      have HBA := Lib.hid (HB9.out.trans (hA.mono HB9.out.size))
                      clear hA
                      go_wp2_with fail
                      refine (LV.out _).mono ?_
                      rintro e WC ⟨rfl, hC⟩
                      have HBC := Lib.hid (HBA.out.trans (hC.mono HBA.out.size))
                      clear hC
                      go_wp2
                      go_ret
                      exact ⟨rfl, WB.out.trans (HBC.out.mono WB.out.size)⟩
            · have hvN : vN = f := by
                rcases HTP.out with ⟨-, h1, h2, -⟩ | ⟨h1, -⟩
                · omega
                · rw [hbN] at h1; cases h1
              subst hbN hvN
              clear HTP
              by_cases hin : vN + 1 ≤ q1 + 2 * (R : Int)
              · have HB0 := Lib.hid hB
                clear hB
                have d0 := DX.out _ HB0.out
                go_wp2_with fail
                refine (NX.out _ HB0.out).mono ?_
                rintro e W7 ⟨rfl, hb7⟩
                have HB7 := Lib.hid (HB0.out.trans (hb7.mono HB0.out.size))
                have d7 := DX.out _ HB7.out
                clear hb7 d0
                go_wp2_with fail
                refine (SX.out _ HB7.out).mono ?_
                rintro e W8 ⟨rfl, hb8⟩
                have HB8 := Lib.hid (HB7.out.trans (hb8.mono HB7.out.size))
                clear hb8 d7
                cases hbS : bS with
                | false =>
                  have S0 := Lib.hid (fun (v : World) (h : Below W5.heap.size W5 v) => (⟨(CX.out v h).1, h⟩ : v.cell? ⟨Bt, 0, none⟩ = some (.slice (some ⟨g, 0, none⟩) R tc) ∧ Below W5.heap.size W5 v))
                  have wr1 : IntKind.u64.wrap (R : Int) = R := by rw [IntKind.wrap_u64]; omega
                  have wr2 : ((R : Int) == R) = true := by simp
                  go_upto_region 41 with (fail)
                  go_region_held3 (fun v => v.cell? ⟨Bt, 0, none⟩ = some (.slice (some ⟨g, 0, none⟩) R tc) ∧ Below W5.heap.size W5 v)
                    ((first | exact S0.out _ BC | exact S0.out _ BA | exact S0.out _ HB8.out.drew))
                    (first
                    | (go_at_call 24; refine (LV.out _).mono ?_; rintro e wC ⟨rfl, hC⟩; have BC := BA.trans (hC.mono BA.size))
                    | (go_at_call 30; refine (RX.out _ HB8.out.drew).mono ?_; rintro e wA ⟨rfl, hA⟩; have BA := HB8.out.drew.trans (hA.mono HB8.out.drew.size))
                    | fail)
                  have HBC := Lib.hid BC
                  clear BC BA hC hA S0
                  go_wp2
                  go_ret
                  exact ⟨rfl, WB.out.trans (HBC.out.mono WB.out.size)⟩
                | true =>
                  obtain ⟨v0, v1, hno, hyes⟩ := STK.out hbS
                  have HNO := Lib.hid hno; have HYES := Lib.hid hyes
                  obtain ⟨vn, hvn⟩ : ∃ vn : Nat, vS = vn := ⟨vS.toNat, by omega⟩
                  subst hvn
                  have mn1 : min (vn : Int) 500 = vn := by omega
                  have mn2 : ¬ (500 : Int) < vn := by omega
                  have mn3 : ¬ (500 : Int) ≤ vn := by omega
                  have mn4 : (vn : Int) ≤ 500 := by omega
                  have mn5 : (vn : Int) < 500 := by omega
                  have mn6 : min vn 500 = vn := by omega
                  have vz : vn ≤ 120 := by omega
                  clear hno hyes STK
                  go_wp2
                  go_loopw [186] (fun y wr => ∃ m : Nat, y = .int .i64 m ∧ m ≤ vn ∧ Below W5.heap.size W5 wr) (fun y _ => vn - (intOf y).toNat)
                  case atStart => exact ⟨0, rfl, Nat.zero_le _, HB8.out⟩
                  case round =>
                    obtain ⟨m, rfl, hm, hB9⟩ := hrel
                    have HB9 := Lib.hid hB9
                    clear hB9
                    by_cases hmv : m < vn
                    · have mz : (m : Int) < vn := by omega
                      obtain ⟨x, hx⟩ : ∃ x, q1 + (m : Int) = x := ⟨_, rfl⟩
                      have ic := Lib.hid (IX.out _ HB9.out (q1 + m) true (HYES.out m (by omega) (by omega)) (by omega) (by omega))
                      rw [hx] at ic
                      have hxb : 0 ≤ x ∧ x ≤ 1000 := by omega
                      obtain ⟨xb0, xb1⟩ := hxb
                      go_wp2_with fail
                      refine (ic.out).mono ?_
                      rintro e WA ⟨rfl, hA⟩
                      have HBA := Lib.hid (HB9.out.trans (hA.mono HB9.out.size))
                      clear hA
                      go_wp2
                      go_roundw
                      case rel => exact ⟨m + 1, by go_num, hmv, HBA.out⟩
                      case measure => simp [intOf] <;> omega
                    · obtain rfl : m = vn := by omega
                      obtain ⟨x, hx⟩ : ∃ x, q1 + (m : Int) = x := ⟨_, rfl⟩
                      have ic := Lib.hid (IX.out _ HB9.out (q1 + m) false HNO.out (by omega) (by omega))
                      rw [hx] at ic
                      have hxb : 0 ≤ x ∧ x ≤ 1000 := by omega
                      obtain ⟨xb0, xb1⟩ := hxb
                      have mz : ¬ (m : Int) < m := by omega
                      go_wp2_with fail
                      refine (ic.out).mono ?_
                      rintro e WA ⟨rfl, hA⟩
                      have HBA := Lib.hid (HB9.out.trans (hA.mono HB9.out.size))
                      clear hA
                      go_wp2_with fail
                      refine (LV.out _).mono ?_
                      rintro e WC ⟨rfl, hC⟩
                      have HBC := Lib.hid (HBA.out.trans (hC.mono HBA.out.size))
                      clear hC
                      go_wp2
                      go_ret
                      exact ⟨rfl, WB.out.trans (HBC.out.mono WB.out.size)⟩
              · have HB0 := Lib.hid hB
                clear hB
                have d0 := DX.out _ HB0.out
                go_wp2_with fail
                refine (NX.out _ HB0.out).mono ?_
                rintro e W7 ⟨rfl, hb7⟩
                have HB7 := Lib.hid (HB0.out.trans (hb7.mono HB0.out.size))
                have d7 := DX.out _ HB7.out
                clear hb7 d0
                go_wp2_with fail
                refine (SX.out _ HB7.out).mono ?_
                rintro e W8 ⟨rfl, hb8⟩
                have HB8 := Lib.hid (HB7.out.trans (hb8.mono HB7.out.size))
                clear hb8 d7
                cases hbS : bS with
                | false =>
                  have S0 := Lib.hid (fun (v : World) (h : Below W5.heap.size W5 v) => (⟨(CX.out v h).1, h⟩ : v.cell? ⟨Bt, 0, none⟩ = some (.slice (some ⟨g, 0, none⟩) R tc) ∧ Below W5.heap.size W5 v))
                  have wr1 : IntKind.u64.wrap (R : Int) = R := by rw [IntKind.wrap_u64]; omega
                  have wr2 : ((R : Int) == R) = true := by simp
                  go_upto_region 41 with (fail)
                  go_region_held3 (fun v => v.cell? ⟨Bt, 0, none⟩ = some (.slice (some ⟨g, 0, none⟩) R tc) ∧ Below W5.heap.size W5 v)
                    ((first | exact S0.out _ BC | exact S0.out _ BA | exact S0.out _ HB8.out.drew))
                    (first
                    | (go_at_call 24; refine (LV.out _).mono ?_; rintro e wC ⟨rfl, hC⟩; have BC := BA.trans (hC.mono BA.size))
                    | (go_at_call 30; refine (RX.out _ HB8.out.drew).mono ?_; rintro e wA ⟨rfl, hA⟩; have BA := HB8.out.drew.trans (hA.mono HB8.out.drew.size))
                    | fail)
                  have HBC := Lib.hid BC
                  clear BC BA hC hA S0
                  go_wp2
                  go_ret
                  exact ⟨rfl, WB.out.trans (HBC.out.mono WB.out.size)⟩
                | true =>
                  obtain ⟨v0, v1, hno, hyes⟩ := STK.out hbS
                  have HNO := Lib.hid hno; have HYES := Lib.hid hyes
                  obtain ⟨vn, hvn⟩ : ∃ vn : Nat, vS = vn := ⟨vS.toNat, by omega⟩
                  subst hvn
                  have mn1 : min (vn : Int) 500 = vn := by omega
                  have mn2 : ¬ (500 : Int) < vn := by omega
                  have mn3 : ¬ (500 : Int) ≤ vn := by omega
                  have mn4 : (vn : Int) ≤ 500 := by omega
                  have mn5 : (vn : Int) < 500 := by omega
                  have mn6 : min vn 500 = vn := by omega
                  have vz : vn ≤ 120 := by omega
                  clear hno hyes STK
                  go_wp2
                  go_loopw [186] (fun y wr => ∃ m : Nat, y = .int .i64 m ∧ m ≤ vn ∧ Below W5.heap.size W5 wr) (fun y _ => vn - (intOf y).toNat)
                  case atStart => exact ⟨0, rfl, Nat.zero_le _, HB8.out⟩
                  case round =>
                    obtain ⟨m, rfl, hm, hB9⟩ := hrel
                    have HB9 := Lib.hid hB9
                    clear hB9
                    by_cases hmv : m < vn
                    · have mz : (m : Int) < vn := by omega
                      obtain ⟨x, hx⟩ : ∃ x, q1 + (m : Int) = x := ⟨_, rfl⟩
                      have ic := Lib.hid (IX.out _ HB9.out (q1 + m) true (HYES.out m (by omega) (by omega)) (by omega) (by omega))
                      rw [hx] at ic
                      have hxb : 0 ≤ x ∧ x ≤ 1000 := by omega
                      obtain ⟨xb0, xb1⟩ := hxb
                      go_wp2_with fail
                      refine (ic.out).mono ?_
                      rintro e WA ⟨rfl, hA⟩
                      have HBA := Lib.hid (HB9.out.trans (hA.mono HB9.out.size))
                      clear hA
                      go_wp2
                      go_roundw
                      case rel => exact ⟨m + 1, by go_num, hmv, HBA.out⟩
                      case measure => simp [intOf] <;> omega
                    · obtain rfl : m = vn := by omega
                      obtain ⟨x, hx⟩ : ∃ x, q1 + (m : Int) = x := ⟨_, rfl⟩
                      have ic := Lib.hid (IX.out _ HB9.out (q1 + m) false HNO.out (by omega) (by omega))
                      rw [hx] at ic
                      have hxb : 0 ≤ x ∧ x ≤ 1000 := by omega
                      obtain ⟨xb0, xb1⟩ := hxb
                      have mz : ¬ (m : Int) < m := by omega
                      go_wp2_with fail
                      refine (ic.out).mono ?_
                      rintro e WA ⟨rfl, hA⟩
                      have HBA := Lib.hid (HB9.out.trans (hA.mono HB9.out.size))
                      clear hA
                      go_wp2_with fail
                      refine (LV.out _).mono ?_
                      rintro e WC ⟨rfl, hC⟩
                      have HBC := Lib.hid (HBA.out.trans (hC.mono HBA.out.size))
                      clear hC
                      go_wp2
                      go_ret
                      exact ⟨rfl, WB.out.trans (HBC.out.mono WB.out.size)⟩
theorem walk_gateTicks (a : Option Addr) (n c : Nat) (zs : List Int) {w : World} (hr : Row1 .u8 w a n zs) (hcap : n ≤ c) (a2 : Option Addr) (n2 c2 : Nat) (os : List Int) (hr2 : Row1 .u8 w a2 n2 os) (hcap2 : n2 ≤ c2) (q0 : Int) (q00 : 0 ≤ q0) (q01 : q0 ≤ 255) (q1 : Int) (q10 : 0 ≤ q1) (q11 : q1 ≤ 255) (q2 : Int) (q20 : 0 ≤ q2) (q21 : q2 ≤ 255) :
    Calls Try.prog 6 #[.slice a n c, .slice a2 n2 c2, .agg #[.int .u8 q0, .int .u8 q1, .int .u8 q2]] w fun e w' => e = .returned (.bool true) ∧ Below w.heap.size w w' := by
  by_cases h0 : n = 0
  · exact ticks22_a0 a n c zs hr hcap a2 n2 c2 os hr2 hcap2 q0 q00 q01 q1 q10 q11 q2 q20 q21 h0
  by_cases h1 : 12 < n
  · exact ticks22_a1 a n c zs hr hcap a2 n2 c2 os hr2 hcap2 q0 q00 q01 q1 q10 q11 q2 q20 q21 h1
  by_cases h2 : n2 < n
  · exact ticks22_a2 a n c zs hr hcap a2 n2 c2 os hr2 hcap2 q0 q00 q01 q1 q10 q11 q2 q20 q21 h2 (by omega)
  exact ticks22_b a n c zs hr hcap a2 n2 c2 os hr2 hcap2 q0 q00 q01 q1 q10 q11 q2 q20 q21 (by omega) (by omega) (by omega)
end Go.Proofs.Ytmkgadndfiiacaa
