/-
  The law of layer 29 on the order of items, walked: true for any quanta and acts. No condition.
-/
import Derived.Test.YtiogfgkfipekbaaDr11
import Derived.Test.YtiogfgkfipekbaaDr10
import Derived.Test.YtiogfgkfipekbaaOpen29
import Derived.Test.YtiogfgkfipekbaaU64s
import Derived.StillTailTactics
namespace Go.Proofs.Ytiogfgkfipekbaa
set_option linter.unusedVariables false
set_option linter.unusedSimpArgs false
open Go.ChangeShapes Go.WideShapes Go.ChangeAt Go.RowKit
attribute [local go_sem] alloc_drewN setCell_drewN

theorem row_of_u64 {w : World} {base : Nat} {v : Value} {xs : List Int} (h : U64s w base v xs) (hx : ∀ x ∈ xs, 0 ≤ x ∧ x ≤ 18446744073709551615) : ∃ a c, v = .slice a xs.length c ∧ Row1 .u64 w a xs.length xs := by
  obtain ⟨a, c, rfl, _, hc⟩ := h.form
  have hl : xs.length ≤ maxLen := by
    rcases h.2 with ⟨_, h0⟩ | ⟨g, cap, cur, _, _, _, h1, h2, _⟩ <;> omega
  refine ⟨a, c, rfl, rfl, hl, fun x hx2 => by simp [Lit.wf]; exact hx x hx2, fun h0 => ?_⟩
  obtain ⟨g, rfl, hb, hlt, -, -⟩ := hc 0 h0
  refine ⟨g, 0, rfl, hlt, fun i hi => ?_⟩
  obtain ⟨g', e, -, -, hcell, -⟩ := hc i hi
  obtain rfl : g = g' := by injection e with e; injection e
  rw [Nat.zero_add]; exact hcell
theorem q64 (zs : List Int) (i : Nat) (hi : i < zs.length) : (zs.take (i + 1)).map (· + 64) = (zs.take i).map (· + 64) ++ [zs.getD i 0 + 64] := by
  rw [List.take_succ_eq_append_getElem hi, List.map_append, List.getD_eq_getElem?_getD, List.getElem?_eq_getElem hi]
  rfl
set_option maxRecDepth 100000 in
set_option maxHeartbeats 4000000 in
theorem order29_at (a : Option Addr) (k c : Nat) (zs : List Int) (a2 : Option Addr) (n2 c2 : Nat) (as_ : List Act29) (w : World) (hr : Row1 .u16 w a k zs) (ha : RowA29 w a2 n2 as_) (k0 : 1 ≤ k) (k1 : k ≤ 20) (hn : n2 ≤ 300) :
    Calls Try.prog 7 #[.slice a k c, .slice a2 n2 c2] w fun e w' => e = .returned (.bool true) ∧ Below w.heap.size w w' := by
  obtain ⟨j0, jif, jz0, jz1, jz2⟩ := info_parts infoU
  obtain ⟨i0, hif, hz0, hz1, hz2⟩ := info_parts infoI
  have HR := Lib.hid hr; have HA := Lib.hid ha
  have HZ := Lib.hid hr.1
  have h1 : ¬ (k : Int) = 0 := by omega
  have h2 : ¬ (20 : Int) < k := by omega
  have h3 : ¬ (300 : Int) < n2 := by omega
  have h1b : ((k : Int) == 0) = false := by rw [beq_eq_false_iff_ne]; omega
  clear hr ha
  go_enter Try.func7, Try.ntmps7
  go_wp2
  go_loopw [5, 38] (fun zq zi wr => ∃ i : Nat, zi = .int .i64 i ∧ i ≤ k ∧ U64s wr w.heap.size zq ((zs.take i).map (· + 64)) ∧ Below w.heap.size w wr) (fun _ zi _ => k - (intOf zi).toNat)
  case atStart => exact ⟨0, rfl, Nat.zero_le _, World.ownsRow_nil _ _ _ _, Below.refl _ _⟩
  case round =>
    obtain ⟨i, rfl, hi, hu, hb⟩ := hrel
    have HU := Lib.hid hu; have HB := Lib.hid hb
    by_cases hlt : i < k
    · obtain ⟨hzl, hzm, hzw, hzc⟩ := HR.out
      obtain ⟨b, off, rfl, hb0, hcs⟩ := hzc (by omega)
      have c9 := (HB.out.cell (p := ⟨b, off + i, none⟩) hb0).trans (hcs i hlt)
      have hwf := hzw (zs.getD i 0) (by rw [List.getD_eq_getElem?_getD, List.getElem?_eq_getElem (by omega)]; exact List.getElem_mem _)
      obtain ⟨y0, y1⟩ := bounds_u16 hwf
      have HQ := Lib.hid (q64 zs i (by omega))
      obtain ⟨ts, hts⟩ : ∃ ts, (zs.take i).map (· + 64) = ts := ⟨_, rfl⟩
      have LE := Lib.hid (show ts.length = i by rw [← hts, List.length_map, List.length_take]; omega)
      rw [hts] at HU HQ
      obtain ⟨ao, co, hve⟩ := row_slice HU.out
      rw [LE.out] at hve
      have z0 : (0 : Int) ≤ i := by omega
      have z1 : (i : Int) < k := by omega
      clear hzl hzm hzw hzc hcs hwf hts hu hb
      obtain ⟨y, hy⟩ : ∃ y, zs.getD i 0 = y := ⟨_, rfl⟩
      rw [hy] at c9 y0 y1 HQ
      clear hy
      have hw1 : IntKind.u64.wrap y = y := by rw [IntKind.wrap_u64]; omega
      have hw2 : IntKind.u64.wrap (y + 64) = y + 64 := by rw [IntKind.wrap_u64]; omega
      have OT := Lib.hid (show wr.ownsRow w.heap.size 22 1 (.slice ao i co) i (ts.map (Value.int .u64)) by have := HU.out; unfold U64s at this; rw [hve, LE.out] at this; exact this)
      rw [hve]
      clear hve HU
      go_wp2_with (at_builtin; refine wpList_append_own_at _ rfl _ _ 58 rfl w.heap.size 22 j0 (.int .u64 0) 1 8 Try.underlying58 jif jz0 jz1 jz2 rfl (by decide) (.slice ao i co) _ _ rfl (OT.out.alloc _) ⟨wr.heap.size, 0, none⟩ 1 1 [.int .u64 (y + 64)] rfl rfl (cells_one6 _ _ _) (fun x hx => by simp at hx; subst hx; rfl) (by unfold maxLen; omega) (by omega) (by have := HB.out.size; simp; omega) ?_; intro v3 w3 ho3 hg3 hn3 hat3; clear hn3 hat3; have HO3 := Lib.hid ho3; have HG3 := Lib.hid hg3; clear ho3 hg3)
      have FIN := Lib.hid (show U64s w3 w.heap.size v3 (ts ++ [y + 64]) from U64s.of_append (by rw [LE.out]; exact HO3.out))
      have BE := Lib.hid (show Below w.heap.size w w3 from (HB.out.alloc HB.out.size _).grown HG3.out (by have := HB.out.size; simp; omega) (fun r hr => (World.ownsRow.lt OT.out r hr).1))
      clear HO3 HG3 OT
      go_wp2
      go_roundw
      case rel => exact ⟨i + 1, by go_num, by omega, by rw [HQ.out]; exact FIN.out, BE.out⟩
      case measure => simp [intOf] <;> omega
    · have hik : i = k := by omega
      obtain ⟨qs, hqs⟩ : ∃ qs, (zs.take i).map (· + 64) = qs := ⟨_, rfl⟩
      have hzi : ∀ j, j < k → 0 ≤ zs.getD j 0 ∧ zs.getD j 0 ≤ 65535 := fun j hj => by
        have h9 := HR.out.2.2.1 (zs.getD j 0) (by rw [List.getD_eq_getElem?_getD, List.getElem?_eq_getElem (by have := HR.out.1; omega)]; exact List.getElem_mem _)
        exact bounds_u16 h9
      have hql : qs.length = k := by rw [← hqs, List.length_map, List.length_take, HR.out.1]; omega
      have hqd : ∀ j, j < k → 64 ≤ qs.getD j 0 ∧ qs.getD j 0 ≤ 4294967296 := fun j hj => by
        have h8 := hzi j hj
        have e : qs.getD j 0 = zs.getD j 0 + 64 := by
          rw [← hqs, List.getD_eq_getElem?_getD, List.getElem?_map, List.getElem?_take_of_lt (by omega), List.getD_eq_getElem?_getD, List.getElem?_eq_getElem (by have := HR.out.1; omega)]
          rfl
        omega
      rw [hqs] at HU
      obtain ⟨aq, cq, hve, rq⟩ := row_of_u64 HU.out (fun x hx => by
        obtain ⟨j, hj, e⟩ := List.mem_iff_getElem.1 hx
        have := hqd j (by omega)
        rw [List.getD_eq_getElem?_getD, List.getElem?_eq_getElem hj] at this
        rw [← e]
        have h7 : 64 ≤ qs[j] ∧ qs[j] ≤ 4294967296 := this
        omega)
      rw [hql] at hve rq
      have NW := Lib.hid (dnew aq k cq qs k0 (by omega) rq)
      have QO := Lib.hid (show QuOk k qs from hqd)
      have z0 : ¬ (i : Int) < k := by omega
      rw [hve]
      clear hu hb hik hqs hzi hql hqd rq hve HU hlt hi
      go_wp2_with fail
      refine NW.out.mono ?_
      rintro e w1 ⟨b1, (⟨hq, -⟩ | ⟨-, T, In, rfl, d1⟩)⟩
      · exact absurd QO.out hq
      · have D1 := Lib.hid d1
        have S1 := Lib.hid b1.size
        have B1 := Lib.hid (HB.out.trans (b1.mono HB.out.size))
        have W0 := Lib.hid HB.out.size
        clear d1 b1 NW
        generalize hbs : wr.heap.size = base at *
        clear hbs
        go_wp2_with (at_make; refine wpList_make_full _ rfl _ _ 78 rfl w1.heap.size 3 i0 (.int .i64 0) 1 Try.underlying78 hif hz0 hz1 _ _ _ _ k rfl rfl rfl rfl (by rw [hz2]; omega) (by unfold maxLen; omega) (Nat.le_refl _) ?_; intro w2 ho2 hg2; have HO2 := Lib.hid ho2; have HG2 := Lib.hid hg2; clear ho2 hg2)
        have b2 : Below w1.heap.size w1 w2 := (Below.refl _ w1).grown HG2.out (Nat.le_refl _) (by simp)
        have B2 := Lib.hid (B1.out.trans (b2.mono B1.out.size))
        have D2 := Lib.hid (D1.out.below b2)
        have S2 := Lib.hid (Nat.le_trans S1.out b2.size)
        have L0 := Lib.hid (show w2.ownsRow base 3 1 (.slice (some ⟨w1.heap.size, 0, none⟩) k k) k ((List.replicate k 0).map (Value.int .i64)) from by
          have o2 := HO2.out
          have e2 : (madeCells (Value.int .i64 0).cells (k * 1)).toList = (List.replicate k 0).map (Value.int .i64) := by
            simp [madeCells, Value.cells, List.map_const', List.eq_replicate_iff]
            intro a _; rw [Nat.mod_one]; rfl
          rw [e2] at o2
          refine ⟨o2.1, ?_⟩
          rcases o2.2 with hx | ⟨g, cap, cur, e1, h1, rest⟩
          · exact Or.inl hx
          · exact Or.inr ⟨g, cap, cur, e1, Nat.le_trans S1.out h1, rest⟩)
        have NL := Lib.hid (show ¬ In w1.heap.size from fun hj => by have := (D1.out.inlt hj).2; omega)
        have O0 := Lib.hid (Ord.start D1.out.inv)
        generalize hLL : w1.heap.size = L at *
        clear hLL HO2 HG2 D1 B1 S1 b2
        go_wp2
        go_loopw [11, 61] (fun zn zi wr => ∃ (i n : Nat) (S : Ts) (In1 : Nat → Prop) (last : List Int), zi = .int .i64 i ∧ i ≤ n2 ∧ zn = .int .i64 n ∧ n ≤ i ∧ Hid (DrG wr base T S In1) ∧ Hid (Ord S last n i) ∧ Hid (S.n = k) ∧ Hid (wr.ownsRow base 3 1 (.slice (some ⟨L, 0, none⟩) k k) k (last.map (Value.int .i64))) ∧ Hid (¬ In1 L) ∧ Hid (base ≤ wr.heap.size) ∧ Hid (Below w.heap.size w wr)) (fun _ zi _ => n2 - (intOf zi).toNat)
        case atStart => exact ⟨0, 0, _, In, _, rfl, Nat.zero_le _, rfl, Nat.le_refl _, D2, O0, Lib.hid rfl, L0, NL, S2, B2⟩
        case round =>
          clear D2 O0 L0 NL S2 B2
          obtain ⟨i, n, S, In1, last, rfl, hi, rfl, hni, D, O, HN, LR, NL, SZ, B⟩ := hrel
          by_cases hlt : i < n2
          · obtain ⟨hzl, hzm, hzw, hzc⟩ := HA.out
            obtain ⟨b, off, rfl, hb0, hcs⟩ := hzc (by omega)
            obtain ⟨cx0, cx1, cx2⟩ := hcs i hlt
            have ac0_ := (B.out.cell (p := ⟨b, off + i * 3, none⟩) hb0).trans cx0
            have ac1_ := (B.out.cell (p := ⟨b, off + i * 3 + 1, none⟩) hb0).trans cx1
            have ac2_ := (B.out.cell (p := ⟨b, off + i * 3 + 2, none⟩) hb0).trans cx2
            obtain ⟨⟨x0, x1⟩, y0, y1⟩ := hzw (as_.getD i Act29.nil) (by rw [List.getD_eq_getElem?_getD, List.getElem?_eq_getElem (by rw [hzl]; exact hlt)]; exact List.getElem_mem _)
            clear hzl hzm hzw hzc hcs cx0 cx1 cx2
            obtain ⟨xx, hxx⟩ : ∃ xx, as_.getD i Act29.nil = xx := ⟨_, rfl⟩
            rw [hxx] at ac0_ ac1_ ac2_ x0 x1 y0 y1
            clear hxx
            obtain ⟨d, N, M⟩ := xx
            dsimp only at ac0_ ac1_ ac2_ x0 x1 y0 y1
            have z0 : (0 : Int) ≤ i := by omega
            have z1 : (i : Int) < n2 := by omega
            have n300 : n ≤ 300 := by omega
            have hbl : Below wr.heap.size wr (wr.alloc (.cells #[.bool d, .int .i64 N, .int .u64 M] 67)) := (Below.refl _ _).alloc (Nat.le_refl _) _
            have A3 := Lib.hid (heap_alloc_new wr (.cells #[.bool d, .int .i64 N, .int .u64 M] 67))
            have D3 := Lib.hid (D.out.below hbl)
            have S3 := Lib.hid (Nat.le_trans SZ.out hbl.size)
            have B3 := Lib.hid (B.out.trans (hbl.mono B.out.size))
            have LL := Lib.hid (World.ownsRow.lt LR.out L rfl)
            have LR3 := Lib.hid (own_onD LR.out (fun j hj => hbl.block j (World.ownsRow.lt LR.out j hj).2))
            have LL3 := Lib.hid (show L < (wr.alloc (.cells #[.bool d, .int .i64 N, .int .u64 M] 67)).heap.size from Nat.lt_of_lt_of_le LL.out.2 hbl.size)
            have HLT := Lib.hid hlt
            have ki : i + 1 ≤ 301 := by omega
            clear hbl D LR SZ B hi
            cases d with
            | false =>
              obtain ⟨cu, hcu⟩ : ∃ cu, IntKind.u64.wrap N = cu := ⟨_, rfl⟩
              have hcw := IntKind.wrap_u64 N
              rw [hcu] at hcw
              obtain ⟨r, hrr⟩ : ∃ r : Nat, cu % (k : Int) = r := ⟨(cu % (k : Int)).toNat, by have := Int.emod_nonneg cu (show (k : Int) ≠ 0 by omega); omega⟩
              have hrk : r < k := by have := Int.emod_lt_of_pos cu (show (0 : Int) < k by omega); omega
              have hcu0 : 0 ≤ cu := by omega
              have t1 : cu.tmod (k : Int) = (r : Int) := by rw [Int.tmod_eq_emod_of_nonneg hcu0, hrr]
              have t2 : IntKind.u64.wrap (k : Int) = k := by rw [IntKind.wrap_u64]; omega
              have t3 : IntKind.u64.wrap (r : Int) = r := by rw [IntKind.wrap_u64]; omega
              have t4 : IntKind.i64.wrap (r : Int) = r := by rw [IntKind.wrap_i64]; omega
              obtain ⟨s, hs⟩ : ∃ s, M % 2000 = s := ⟨_, rfl⟩
              have hs2 : 0 ≤ s ∧ s ≤ 1999 := by omega
              have t5 : M.tmod 2000 = s := by rw [Int.tmod_eq_emod_of_nonneg y0, hs]
              have t6 : IntKind.u64.wrap s = s := by rw [IntKind.wrap_u64]; omega
              have t7 : IntKind.u64.wrap (s + 1) = s + 1 := by rw [IntKind.wrap_u64]; omega
              have t8 : IntKind.i64.wrap ((i : Int) + 1) = (i : Int) + 1 := by rw [IntKind.wrap_i64]; omega
              obtain ⟨hm, OP⟩ := O.out.put (by omega) r (by rw [HN.out]; exact hrk) (s + 1) (by omega) (by omega)
              have PU := dpush (D3.out.below (Below.refl _ _).drew) S3.out (r : Int) (s + 1) ((i : Int) + 1) (by omega) (by omega)
              rw [hm] at PU
              have PUH := Lib.hid PU
              have OPH := Lib.hid OP
              have NN := Lib.hid (show (S.push (r : Int) (s + 1) ((i : Int) + 1)).n = k from by
                have : (S.push (r : Int) (s + 1) ((i : Int) + 1)).n = S.n := by unfold Ts.push; split <;> rfl
                rw [this]; exact HN.out)
              have kz : ¬ k = 0 := by omega
              clear hcw hrr hs hm OP PU O
              go_upto_region 18 with (fail)
              obtain ⟨a0_, a1_, a2_⟩ := (⟨cell_of_row _ _ 0 _ _ (0, 0) A3.out, cell_of_row _ _ 1 _ _ (0, 0) A3.out, cell_of_row _ _ 2 _ _ (0, 0) A3.out⟩ : (wr.alloc (.cells #[.bool false, .int .i64 N, .int .u64 M] 67)).cell? ⟨wr.heap.size, 0, none⟩ = some (.bool false) ∧ (wr.alloc (.cells #[.bool false, .int .i64 N, .int .u64 M] 67)).cell? ⟨wr.heap.size, 1, none⟩ = some (.int .i64 N) ∧ (wr.alloc (.cells #[.bool false, .int .i64 N, .int .u64 M] 67)).cell? ⟨wr.heap.size, 2, none⟩ = some (.int .u64 M))
              clear ac0_ ac1_ ac2_ A3
              generalize hwa : wr.alloc (.cells #[.bool false, .int .i64 N, .int .u64 M] 67) = wa at *
              generalize hAA : wr.heap.size = A at *
              clear hwa hAA
              refine wp_region_still_tail 15 (by kernel_rfl) (by kernel_rfl) ?_
              simp only [List.take_succ_cons, List.take_zero, List.drop_succ_cons, List.drop_zero]
              repeat still_step
              refine wpStill_nil ?_
              change wpList _ _ _ _ _ wa.drew
              go_wp2_with (go_at_call 39; refine PUH.out.mono ?_; rintro e w3 ⟨rfl, In2, d3, m3⟩; have D4 := Lib.hid d3; have M3 := Lib.hid m3; clear d3 m3)
              have NL2 := Lib.hid (show ¬ In2 L from fun hj => (M3.out.own L hj).elim (fun h => by have := LL3.out; have h9 : wa.heap.size ≤ L := h; omega) NL.out)
              have LR4 := Lib.hid (own_onD LR3.out (fun j hj => by
                have : L = j := Option.some.inj hj
                subst this
                exact M3.out.block L LL3.out NL.out))
              have S4 := Lib.hid (Nat.le_trans S3.out M3.out.size)
              have B4 := Lib.hid (B3.out.drew.trans ((M3.out.below (Below.refl _ _) (fun j hj => (D3.out.inlt hj).1) S3.out).mono W0.out))
              go_wp2
              go_roundw
              case rel => exact ⟨i + 1, n + 1, _, In2, last, by go_num, HLT.out, by go_num, by omega, D4, OPH, NN, LR4, NL2, S4, B4⟩
              case measure => have := HLT.out; simp [intOf] <;> omega
            | true =>
              have NX := Lib.hid (dnext D3.out S3.out)
              cases n with
              | zero =>
                obtain ⟨hF, ON⟩ := O.out.none
                have hSn : S.next.n = k := by
                  have := ON.ll
                  have h9 := O.out.ll
                  have := HN.out
                  omega
                rw [hF] at NX
                have ONH := Lib.hid ON.more
                have HSN := Lib.hid hSn
                clear hF ON hSn O
                go_wp2_with fail
                refine NX.out.mono ?_
                rintro e w3 ⟨rfl, In2, d3, m3⟩
                have D4 := Lib.hid d3; have M3 := Lib.hid m3
                have NL2 := Lib.hid (show ¬ In2 L from fun hj => (M3.out.own L hj).elim (fun h => by have := LL3.out; omega) NL.out)
                have LR4 := Lib.hid (own_onD LR3.out (fun j hj => by
                  have : L = j := Option.some.inj hj
                  subst this
                  exact M3.out.block L LL3.out NL.out))
                have S4 := Lib.hid (Nat.le_trans S3.out M3.out.size)
                have B4 := Lib.hid (B3.out.trans ((M3.out.below (Below.refl _ _) (fun j hj => (D3.out.inlt hj).1) S3.out).mono W0.out))
                clear d3 m3 NX A3 ac0_ ac1_ ac2_
                go_wp2
                go_roundw
                case rel => exact ⟨i + 1, 0, _, In2, last, by go_num, HLT.out, rfl, Nat.zero_le _, D4, ONH, HSN, LR4, NL2, S4, B4⟩
                case measure => have := HLT.out; simp [intOf] <;> omega
              | succ n =>
                obtain ⟨cc, sz, id, hF, hcn, hlo, hhi, ON, hSn⟩ := O.out.next
                rw [hF] at NX
                dsimp only at NX
                have hll := O.out.ll
                have hck : cc < k := by have := HN.out; omega
                have hlast : last.length = k := by have := HN.out; omega
                have ONH := Lib.hid ON.more
                have HSN := Lib.hid (show S.next.n = k by rw [hSn]; exact HN.out)
                have HLO := Lib.hid hlo
                obtain ⟨la, hla⟩ : ∃ la, last.getD cc 0 = la := ⟨_, rfl⟩
                rw [hla] at hlo
                have HLA := Lib.hid hla
                have c0_ : ¬ (cc : Int) < 0 := by omega
                have c1_ : ¬ (k : Int) ≤ cc := by omega
                have c2_ : (0 : Int) ≤ cc := by omega
                have c3_ : (cc : Int) < k := by omega
                have c4_ : ¬ id ≤ la := by omega
                have n1_ : IntKind.i64.wrap (((n + 1 : Nat) : Int) - 1) = (n : Int) := by rw [IntKind.wrap_i64]; omega
                have gn : decide ((0 : Int) < ((n + 1 : Nat) : Int)) = true := decide_eq_true (by omega)
                clear hF ON O hcn hhi hSn hll hla
                go_wp2_with fail
                refine NX.out.mono ?_
                rintro e w3 ⟨rfl, In2, d3, m3⟩
                have D4 := Lib.hid d3; have M3 := Lib.hid m3
                have NL2 := Lib.hid (show ¬ In2 L from fun hj => (M3.out.own L hj).elim (fun h => by have := LL3.out; omega) NL.out)
                have LR4 := Lib.hid (own_onD LR3.out (fun j hj => by
                  have : L = j := Option.some.inj hj
                  subst this
                  exact M3.out.block L LL3.out NL.out))
                have S4 := Lib.hid (Nat.le_trans S3.out M3.out.size)
                have B4 := Lib.hid (B3.out.trans ((M3.out.below (Below.refl _ _) (fun j hj => (D3.out.inlt hj).1) S3.out).mono W0.out))
                have lc : w3.cell? ⟨L, cc, none⟩ = some (.int .i64 la) := by
                  have h9 := LR4.out.cellAt cc (by omega)
                  rw [List.getElem?_map, List.getElem?_eq_getElem (by omega)] at h9
                  rw [← HLA.out, List.getD_eq_getElem?_getD, List.getElem?_eq_getElem (by omega)]
                  exact h9
                have lf : w3.frozen? ⟨L, cc, none⟩ = false := LR4.out.frozenAt _
                have LR5 := Lib.hid (row_put LR4.out cc (.int .i64 id))
                have D5 := Lib.hid (D4.out.keep (w' := w3.setCell ⟨L, cc, none⟩ (.int .i64 id)) (fun j hj => Below.heap_setCell w3 ⟨L, cc, none⟩ _ j (fun e => NL2.out (by have e2 : j = L := e; exact e2 ▸ hj))))
                have S5 := Lib.hid (show base ≤ (w3.setCell ⟨L, cc, none⟩ (.int .i64 id)).heap.size by simpa [World.setCell] using S4.out)
                have B5 := Lib.hid (Below.setCell B4.out (p := ⟨L, cc, none⟩) (by have := LL.out.1; have := W0.out; show w.heap.size ≤ L; omega) (.int .i64 id))
                clear d3 m3 NX A3 LR4 D4 S4 B4 ac0_ ac1_ ac2_
                go_wp2
                go_roundw
                case rel => exact ⟨i + 1, n, _, In2, last.set cc id, by go_num, HLT.out, by go_num, by omega, D5, ONH, HSN, by rw [List.map_set]; exact LR5, NL2, S5, B5⟩
                case measure => have := HLT.out; simp [intOf] <;> omega
          · have zi : ¬ (i : Int) < n2 := by omega
            have n300 : n ≤ 300 := by omega
            have LB := Lib.hid (show base ≤ L from (World.ownsRow.lt LR.out L rfl).1)
            clear hlt hi hni
            obtain ⟨W9, hW9⟩ : ∃ W9, wr = W9 := ⟨_, rfl⟩
            subst hW9
            go_wp2
            go_loopw [11] (fun zn wr => ∃ (n : Nat) (S : Ts) (In1 : Nat → Prop) (last : List Int), zn = .int .i64 n ∧ n ≤ 300 ∧ Hid (DrG wr base T S In1) ∧ Hid (Ord S last n i) ∧ Hid (S.n = k) ∧ Hid (wr.ownsRow base 3 1 (.slice (some ⟨L, 0, none⟩) k k) k (last.map (Value.int .i64))) ∧ Hid (¬ In1 L) ∧ Hid (base ≤ wr.heap.size) ∧ Hid (Below w.heap.size w wr)) (fun zn _ => (intOf zn).toNat)
            case atStart => exact ⟨n, S, In1, last, rfl, n300, D, O, HN, LR, NL, SZ, B⟩
            case round =>
              clear D O HN LR NL SZ B n300
              obtain ⟨n, S, In1, last, rfl, n300, D3, O, HN, LR3, NL, S3, B3⟩ := hrel
              cases n with
              | zero =>
                have hR : S.R = [] := (tot_zero O.out.inv).2 O.out.tot
                have LE := dlen D3.out
                rw [show lenR S.q S.R = 0 by rw [hR]; rfl] at LE
                have LEH := Lib.hid LE
                have RW := Lib.hid (fun (v : World) (hv : Below wr.heap.size wr v) => drow (D3.out.below hv))
                have HRL := Lib.hid (show S.R.length = 0 by rw [hR]; rfl)
                clear LE hR
                go_wp2_with fail
                refine LEH.out.mono ?_
                rintro e w4 ⟨rfl, b4⟩
                have B4 := Lib.hid b4
                have RW4 := RW.out _ b4
                rw [HRL.out] at RW4
                have RW4H := Lib.hid RW4
                clear b4 RW4 RW
                go_wp2_with fail
                refine RW4H.out.mono ?_
                rintro e w5 ⟨c5, rfl, -, b5⟩
                have B5 := Lib.hid (B3.out.trans ((B4.out.trans (b5.mono B4.out.size)).mono B3.out.size))
                clear b5
                go_wp2_with fail
                refine (lives29 _).mono ?_
                rintro e w6 ⟨rfl, b6⟩
                have B6 := Lib.hid (B5.out.trans (b6.mono B5.out.size))
                clear b6
                go_wp2
                go_ret
                exact ⟨rfl, B6.out⟩
              | succ n =>
                have NX := Lib.hid (dnext D3.out S3.out)
                have LL3 := Lib.hid (World.ownsRow.lt LR3.out L rfl).2
                obtain ⟨cc, sz, id, hF, hcn, hlo, hhi, ON, hSn⟩ := O.out.next
                rw [hF] at NX
                dsimp only at NX
                have hll := O.out.ll
                have hck : cc < k := by have := HN.out; omega
                have hlast : last.length = k := by have := HN.out; omega
                have ONH := Lib.hid ON
                have HSN := Lib.hid (show S.next.n = k by rw [hSn]; exact HN.out)
                have HLO := Lib.hid hlo
                obtain ⟨la, hla⟩ : ∃ la, last.getD cc 0 = la := ⟨_, rfl⟩
                rw [hla] at hlo
                have HLA := Lib.hid hla
                have c0_ : ¬ (cc : Int) < 0 := by omega
                have c1_ : ¬ (k : Int) ≤ cc := by omega
                have c2_ : (0 : Int) ≤ cc := by omega
                have c3_ : (cc : Int) < k := by omega
                have c4_ : ¬ id ≤ la := by omega
                have n1_ : IntKind.i64.wrap (((n + 1 : Nat) : Int) - 1) = (n : Int) := by rw [IntKind.wrap_i64]; omega
                have gn : decide ((0 : Int) < ((n + 1 : Nat) : Int)) = true := decide_eq_true (by omega)
                clear hF ON O hcn hhi hSn hll hla
                go_wp2_with fail
                refine NX.out.mono ?_
                rintro e w3 ⟨rfl, In2, d3, m3⟩
                have D4 := Lib.hid d3; have M3 := Lib.hid m3
                have NL2 := Lib.hid (show ¬ In2 L from fun hj => (M3.out.own L hj).elim (fun h => by have := LL3.out; omega) NL.out)
                have LR4 := Lib.hid (own_onD LR3.out (fun j hj => by
                  have : L = j := Option.some.inj hj
                  subst this
                  exact M3.out.block L LL3.out NL.out))
                have S4 := Lib.hid (Nat.le_trans S3.out M3.out.size)
                have B4 := Lib.hid (B3.out.trans ((M3.out.below (Below.refl _ _) (fun j hj => (D3.out.inlt hj).1) S3.out).mono W0.out))
                have lc : w3.cell? ⟨L, cc, none⟩ = some (.int .i64 la) := by
                  have h9 := LR4.out.cellAt cc (by omega)
                  rw [List.getElem?_map, List.getElem?_eq_getElem (by omega)] at h9
                  rw [← HLA.out, List.getD_eq_getElem?_getD, List.getElem?_eq_getElem (by omega)]
                  exact h9
                have lf : w3.frozen? ⟨L, cc, none⟩ = false := LR4.out.frozenAt _
                have LR5 := Lib.hid (row_put LR4.out cc (.int .i64 id))
                have D5 := Lib.hid (D4.out.keep (w' := w3.setCell ⟨L, cc, none⟩ (.int .i64 id)) (fun j hj => Below.heap_setCell w3 ⟨L, cc, none⟩ _ j (fun e => NL2.out (by have e2 : j = L := e; exact e2 ▸ hj))))
                have S5 := Lib.hid (show base ≤ (w3.setCell ⟨L, cc, none⟩ (.int .i64 id)).heap.size by simpa [World.setCell] using S4.out)
                have B5 := Lib.hid (Below.setCell B4.out (p := ⟨L, cc, none⟩) (by have := LB.out; have := W0.out; show w.heap.size ≤ L; omega) (.int .i64 id))
                clear d3 m3 NX LR4 D4 S4 B4
                go_wp2
                go_roundw
                case rel => exact ⟨n, _, In2, last.set cc id, by go_num, by omega, D5, ONH, HSN, by rw [List.map_set]; exact LR5, NL2, S5, B5⟩
                case measure => simp [intOf] <;> omega
end Go.Proofs.Ytiogfgkfipekbaa
