/-
  The field that a string begins with, by the document's answer for layer 4. What lay below the heap's end stands.
-/
import Derived.Test.YtdlcipbehalfhaaWireR3
import Derived.Deep.RegionHeld3
namespace Go.Proofs.Ytdlcipbehalfhaa
set_option linter.unusedVariables false
set_option linter.unusedSimpArgs false
open Go.ChangeShapes Go.WideShapes Go.ChangeAt Go.RowKit
attribute [-go_sem] run_index_string binOp_string_eql binOp_string_neq run_string_add_if run_slice_string_from_if run_slice_string_to_if
attribute [local go_sem] index_bt add_fits slice_from slice_to eql_str neq_str alloc_drewN setCell_drewN
attribute [local go_sem high] index_at

/-- Two fields that were laid, one behind the other: their cells, and that they may be written, in all worlds behind. -/
theorem two_fields (w : World) (k : Int) (t : TypeId) (v : World)
    (hv : Below ((w.alloc (.cells #[.int .i64 0, .int .u64 0, .string ⟨#[]⟩] t)).alloc (.cells #[.int .i64 k, .int .u64 0, .string ⟨#[]⟩] t)).heap.size ((w.alloc (.cells #[.int .i64 0, .int .u64 0, .string ⟨#[]⟩] t)).alloc (.cells #[.int .i64 k, .int .u64 0, .string ⟨#[]⟩] t)) v) :
    (v.cell? ⟨w.heap.size, 0, none⟩ = some (.int .i64 0) ∧ v.cell? ⟨w.heap.size, 1, none⟩ = some (.int .u64 0) ∧ v.cell? ⟨w.heap.size, 2, none⟩ = some (.string ⟨#[]⟩)) ∧
    (v.cell? ⟨w.heap.size + 1, 0, none⟩ = some (.int .i64 k) ∧ v.cell? ⟨w.heap.size + 1, 1, none⟩ = some (.int .u64 0) ∧ v.cell? ⟨w.heap.size + 1, 2, none⟩ = some (.string ⟨#[]⟩)) ∧
    (∀ o, v.frozen? ⟨w.heap.size, o, none⟩ = false) ∧ (∀ o, v.frozen? ⟨w.heap.size + 1, o, none⟩ = false) ∧ w.heap.size + 2 ≤ v.heap.size := by
  have hs := hv.size
  simp at hs
  refine ⟨⟨(hv.cell (p := ⟨w.heap.size, 0, none⟩) (by simp; omega)).trans ?_, (hv.cell (p := ⟨w.heap.size, 1, none⟩) (by simp; omega)).trans ?_, (hv.cell (p := ⟨w.heap.size, 2, none⟩) (by simp; omega)).trans ?_⟩,
    ⟨(hv.cell (p := ⟨w.heap.size + 1, 0, none⟩) (by simp)).trans ?_, (hv.cell (p := ⟨w.heap.size + 1, 1, none⟩) (by simp)).trans ?_, (hv.cell (p := ⟨w.heap.size + 1, 2, none⟩) (by simp)).trans ?_⟩,
    fun o => (hv.frozen (p := ⟨w.heap.size, o, none⟩) (by simp; omega)).trans ?_, fun o => (hv.frozen (p := ⟨w.heap.size + 1, o, none⟩) (by simp)).trans ?_, by omega⟩ <;> simp [go_sem]
set_option maxRecDepth 100000 in
set_option maxHeartbeats 1000000 in
theorem read_any (s : ByteArray) (k : Int) (hs : s.size ≤ 140737488355328) (k0 : -9223372036854775808 ≤ k) (k1 : k ≤ 9223372036854775807) (w : World) :
    Calls Try.prog 143 #[.string s, .int .i64 k] w fun e w' => e = .returned (.tuple #[(tk s k).1.val, .int .i64 ((tk s k).2.1 : Nat), .int .i64 (tk s k).2.2]) ∧ Below w.heap.size w w' := by
  unfold Fd.val
  have RB := Lib.hid (fun w => refbytes_any k k0 k1 w)
  by_cases hk : k < 1 ∨ 6 < k
  · have e : tk s k = (⟨k, 0, ⟨#[]⟩⟩, 0, 6) := by unfold tk; rw [if_pos hk]
    rw [e]
    clear e
    simp only
    rcases hk with hk | hk
    · go_enter Try.func143, Try.ntmps143
      go_wp2
      (try simp only [Exit.inBlock, Exit.then])
      refine bodyPost_ret (v := .tuple #[.agg #[.int .i64 k, .int .u64 0, .string ⟨#[]⟩], .int .i64 0, .int .i64 6]) (by simp [results, Try.results143, go_sem, *]) rfl ⟨rfl, ((Below.refl _ _).alloc (Nat.le_refl _) _).alloc (by simp) _⟩
    · go_enter Try.func143, Try.ntmps143
      go_wp2
      (try simp only [Exit.inBlock, Exit.then])
      refine bodyPost_ret (v := .tuple #[.agg #[.int .i64 k, .int .u64 0, .string ⟨#[]⟩], .int .i64 0, .int .i64 6]) (by simp [results, Try.results143, go_sem, *]) rfl ⟨rfl, ((Below.refl _ _).alloc (Nat.le_refl _) _).alloc (by simp) _⟩
  · have hk1 : 1 ≤ k := by omega
    have hk6 : k ≤ 6 := by omega
    by_cases hk4 : k ≤ 4
    · have hw : 0 < wk k ∧ wk k ≤ 8 := by unfold wk; (repeat' split) <;> omega
      have e : tk s k = (if s.size < wk k then (⟨k, 0, ⟨#[]⟩⟩, 0, 2) else (⟨k, be s (wk k), ⟨#[]⟩⟩, wk k, 0)) := by
        unfold tk; rw [if_neg hk, if_pos hk4]
      rw [e]
      clear e hk
      obtain ⟨z, hz⟩ : ∃ z, wk k = z := ⟨_, rfl⟩
      rw [hz] at hw RB ⊢
      clear hz
      by_cases hsz0 : s.size < z
      · rw [if_pos hsz0]
        simp only
        go_enter Try.func143, Try.ntmps143
        go_wp2_with fail
        refine (RB.out _).mono ?_
        rintro e w1 ⟨rfl, h1⟩
        obtain ⟨⟨r0, r1, r2⟩, ⟨c0, c1, c2⟩, fr, fc, hsz⟩ := two_fields _ _ _ _ h1
        have hb1 := Below.go (((Below.refl w.heap.size w).alloc (Nat.le_refl _) _).alloc (by simp) _) h1
        have fr0 := fr 0; have fr1 := fr 1; have fr2 := fr 2; have fc0 := fc 0; have fc1 := fc 1; have fc2 := fc 2
        have BW : Hid (Below w.heap.size w w1) := Lib.hid hb1
        clear h1 fr fc hb1
        go_wp2
        (try simp only [Exit.inBlock, Exit.then])
        refine bodyPost_ret (v := .tuple #[.agg #[.int .i64 k, .int .u64 0, .string ⟨#[]⟩], .int .i64 0, .int .i64 2]) (by simp [results, Try.results143, go_sem, *]) rfl ⟨rfl, ((BW.out.setCell (Nat.le_refl _) _).setCell (Nat.le_refl _) _).setCell (Nat.le_refl _) _⟩
      · rw [if_neg hsz0]
        simp only
        go_enter Try.func143, Try.ntmps143
        go_wp2_with fail
        refine (RB.out _).mono ?_
        rintro e w1 ⟨rfl, h1⟩
        obtain ⟨⟨r0, r1, r2⟩, ⟨c0, c1, c2⟩, fr, fc, hsz⟩ := two_fields _ _ _ _ h1
        have hb1 := Below.go (((Below.refl w.heap.size w).alloc (Nat.le_refl _) _).alloc (by simp) _) h1
        have fr0 := fr 0; have fr1 := fr 1; have fr2 := fr 2; have fc0 := fc 0; have fc1 := fc 1; have fc2 := fc 2
        have BW : Hid (Below w.heap.size w w1) := Lib.hid hb1
        clear h1 fr fc hb1
        go_wp2
        go_loopw [9] (fun i wr => ∃ j : Nat, j ≤ z ∧ i = .int .i64 j ∧ wr.cell? ⟨w.heap.size + 1, 0, none⟩ = some (.int .i64 k) ∧ wr.cell? ⟨w.heap.size + 1, 1, none⟩ = some (.int .u64 (be s j)) ∧ wr.cell? ⟨w.heap.size + 1, 2, none⟩ = some (.string ⟨#[]⟩) ∧
            wr.cell? ⟨w.heap.size, 0, none⟩ = some (.int .i64 0) ∧ wr.cell? ⟨w.heap.size, 1, none⟩ = some (.int .u64 0) ∧ wr.cell? ⟨w.heap.size, 2, none⟩ = some (.string ⟨#[]⟩) ∧
            wr.frozen? ⟨w.heap.size, 0, none⟩ = false ∧ wr.frozen? ⟨w.heap.size, 1, none⟩ = false ∧ wr.frozen? ⟨w.heap.size, 2, none⟩ = false ∧ wr.frozen? ⟨w.heap.size + 1, 1, none⟩ = false ∧ Below w.heap.size w wr) (fun i _ => z - (intOf i).toNat)
        case atStart => exact ⟨0, by omega, rfl, c0, c1, c2, r0, r1, r2, fr0, fr1, fr2, fc1, BW.out⟩
        case round =>
          clear c0 c1 c2 r0 r1 r2 fr0 fr1 fr2 fc1 fc0 fc2
          obtain ⟨j, hj, rfl, c0, c1, c2, r0, r1, r2, fr0, fr1, fr2, fc1, hbw⟩ := hrel
          have BR : Hid (Below w.heap.size w wr) := Lib.hid hbw
          clear hbw
          by_cases hlt : j < z
          · obtain ⟨y0, _⟩ := be_bd s j
            have y1 := be_small s j (by omega)
            obtain ⟨b0, b1⟩ := bt_bd s j
            have hy : Hid (be s (j + 1) = be s j * 256 + bt s j) := Lib.hid rfl
            have ia : AtS s (j : Int) := ⟨by omega⟩
            generalize be s j = y at *
            have e1 : IntKind.u64.wrap (y * 256) = y * 256 := by rw [IntKind.wrap_u64]; omega
            have e2 : IntKind.u64.wrap (bt s j) = bt s j := by rw [IntKind.wrap_u64]; omega
            have e3 : IntKind.u64.wrap (y * 256 + bt s j) = y * 256 + bt s j := by rw [IntKind.wrap_u64]; omega
            go_wp2
            go_region
            go_wp2
            go_roundw
            case rel => refine ⟨j + 1, by omega, by go_num, ?_, ?_, ?_, ?_, ?_, ?_, ?_, ?_, ?_, ?_, (BR.out.setCell (by simp) _).drew⟩ <;> simp [go_sem, hy.out, *]
            case measure => simp [intOf] <;> omega
          · have e : j = z := by omega
            subst e
            go_wp2
            (try simp only [Exit.inBlock, Exit.then])
            refine bodyPost_ret (v := .tuple #[.agg #[.int .i64 k, .int .u64 (be s j), .string ⟨#[]⟩], .int .i64 j, .int .i64 0]) (by simp [results, Try.results143, go_sem, *]) rfl ⟨rfl, ((BR.out.setCell (Nat.le_refl _) _).setCell (Nat.le_refl _) _).setCell (Nat.le_refl _) _⟩
            
    · have hz0 : wk k = 0 := by
        unfold wk
        rw [if_neg (by omega), if_neg (by omega), if_neg (by omega), if_neg (by omega)]
      rw [hz0] at RB
      clear hz0
      have SE := Lib.hid (fun w => seven_any s (by unfold maxLen; omega) w)
      have hr := sv_range s
      by_cases h5 : k = 5
      · subst h5
        have e : tk s 5 = (⟨5, (sv s).1, ⟨#[]⟩⟩, (sv s).2.1, (sv s).2.2) := by
          unfold tk
          rw [if_neg (by decide), if_neg (by decide), if_pos rfl]
        rw [e]
        clear e
        generalize sv s = q at *
        obtain ⟨n, c, x⟩ := q
        simp only at hr ⊢
        obtain ⟨_, n0, n1⟩ := hr
        by_cases hx : x = 0
        · have gx : (x != 0) = false := by simp [hx]
          clear hx
          go_enter Try.func143, Try.ntmps143
          go_wp2_with fail
          refine (RB.out _).mono ?_
          rintro e w1 ⟨rfl, h1⟩
          obtain ⟨⟨r0, r1, r2⟩, ⟨c0, c1, c2⟩, fr, fc, hsz⟩ := two_fields _ _ _ _ h1
          have hb1 := Below.go (((Below.refl w.heap.size w).alloc (Nat.le_refl _) _).alloc (by simp) _) h1
          have fr0 := fr 0; have fr1 := fr 1; have fr2 := fr 2; have fc0 := fc 0; have fc1 := fc 1; have fc2 := fc 2
          have BW : Hid (Below w.heap.size w w1) := Lib.hid hb1
          clear h1 fr fc hb1
          go_wp2
          refine wp_loop_rounds 1 ?_
          rw [rounds_succ]
          go_wp2_with fail
          refine (SE.out _).mono ?_
          rintro e w' ⟨rfl, rfl⟩
          go_wp2
          (try simp only [Exit.inBlock, Exit.then])
          refine bodyPost_ret (v := .tuple #[.agg #[.int .i64 5, .int .u64 n, .string ⟨#[]⟩], .int .i64 c, .int .i64 x]) (by simp [results, Try.results143, go_sem, *]) rfl ⟨rfl, (((BW.out.setCell (Nat.le_succ _) _).setCell (Nat.le_refl _) _).setCell (Nat.le_refl _) _).setCell (Nat.le_refl _) _⟩
        · have gx : (x != 0) = true := by simp [hx]
          clear hx
          go_enter Try.func143, Try.ntmps143
          go_wp2_with fail
          refine (RB.out _).mono ?_
          rintro e w1 ⟨rfl, h1⟩
          obtain ⟨⟨r0, r1, r2⟩, ⟨c0, c1, c2⟩, fr, fc, hsz⟩ := two_fields _ _ _ _ h1
          have hb1 := Below.go (((Below.refl w.heap.size w).alloc (Nat.le_refl _) _).alloc (by simp) _) h1
          have fr0 := fr 0; have fr1 := fr 1; have fr2 := fr 2; have fc0 := fc 0; have fc1 := fc 1; have fc2 := fc 2
          have BW : Hid (Below w.heap.size w w1) := Lib.hid hb1
          clear h1 fr fc hb1
          go_wp2
          refine wp_loop_rounds 1 ?_
          rw [rounds_succ]
          go_wp2_with fail
          refine (SE.out _).mono ?_
          rintro e w' ⟨rfl, rfl⟩
          go_wp2
          (try simp only [Exit.inBlock, Exit.then])
          refine bodyPost_ret (v := .tuple #[.agg #[.int .i64 5, .int .u64 n, .string ⟨#[]⟩], .int .i64 c, .int .i64 x]) (by simp [results, Try.results143, go_sem, *]) rfl ⟨rfl, (((BW.out.setCell (Nat.le_succ _) _).setCell (Nat.le_refl _) _).setCell (Nat.le_refl _) _).setCell (Nat.le_refl _) _⟩
      · have h6 : k = 6 := by omega
        subst h6
        rw [tk_text]
        unfold tx
        generalize sv s = q at *
        obtain ⟨n, c, x⟩ := q
        simp only at hr ⊢
        obtain ⟨hr, n0, n1⟩ := hr
        by_cases hx : x = 0
        · subst hx
          rw [if_neg (by simp)]
          have hc : 1 ≤ c ∧ c ≤ s.size ∧ c ≤ 10 := by rcases hr with h | h <;> omega
          clear hr
          by_cases hl : 65535 < n
          · rw [if_pos hl]
            simp only
            go_enter Try.func143, Try.ntmps143
            go_wp2_with fail
            refine (RB.out _).mono ?_
            rintro e w1 ⟨rfl, h1⟩
            obtain ⟨⟨r0, r1, r2⟩, ⟨c0, c1, c2⟩, fr, fc, hsz⟩ := two_fields _ _ _ _ h1
            have hb1 := Below.go (((Below.refl w.heap.size w).alloc (Nat.le_refl _) _).alloc (by simp) _) h1
            have fr0 := fr 0; have fr1 := fr 1; have fr2 := fr 2; have fc0 := fc 0; have fc1 := fc 1; have fc2 := fc 2
            have BW : Hid (Below w.heap.size w w1) := Lib.hid hb1
            clear h1 fr fc hb1
            go_wp2
            refine wp_loop_rounds 1 ?_
            rw [rounds_succ]
            go_wp2_with fail
            refine (SE.out _).mono ?_
            rintro e w' ⟨rfl, rfl⟩
            go_wp2
            (try simp only [Exit.inBlock, Exit.then])
            refine bodyPost_ret (v := .tuple #[.agg #[.int .i64 6, .int .u64 0, .string ⟨#[]⟩], .int .i64 0, .int .i64 4]) (by simp [results, Try.results143, go_sem, *]) rfl ⟨rfl, ((BW.out.setCell (Nat.le_refl _) _).setCell (Nat.le_refl _) _).setCell (Nat.le_refl _) _⟩
          · rw [if_neg hl]
            by_cases ht : ((s.size - c : Nat) : Int) < n
            · rw [if_pos ht]
              simp only
              have hd1 : (s.size : Int) - (c : Int) < n := by omega
              go_enter Try.func143, Try.ntmps143
              go_wp2_with fail
              refine (RB.out _).mono ?_
              rintro e w1 ⟨rfl, h1⟩
              obtain ⟨⟨r0, r1, r2⟩, ⟨c0, c1, c2⟩, fr, fc, hsz⟩ := two_fields _ _ _ _ h1
              have hb1 := Below.go (((Below.refl w.heap.size w).alloc (Nat.le_refl _) _).alloc (by simp) _) h1
              have fr0 := fr 0; have fr1 := fr 1; have fr2 := fr 2; have fc0 := fc 0; have fc1 := fc 1; have fc2 := fc 2
              have BW : Hid (Below w.heap.size w w1) := Lib.hid hb1
              clear h1 fr fc hb1
              go_wp2
              refine wp_loop_rounds 1 ?_
              rw [rounds_succ]
              go_wp2_with fail
              refine (SE.out _).mono ?_
              rintro e w' ⟨rfl, rfl⟩
              go_wp2
              (try simp only [Exit.inBlock, Exit.then])
              refine bodyPost_ret (v := .tuple #[.agg #[.int .i64 6, .int .u64 0, .string ⟨#[]⟩], .int .i64 0, .int .i64 2]) (by simp [results, Try.results143, go_sem, *]) rfl ⟨rfl, ((BW.out.setCell (Nat.le_refl _) _).setCell (Nat.le_refl _) _).setCell (Nat.le_refl _) _⟩
            · rw [if_neg ht]
              simp only
              obtain ⟨y, rfl⟩ := Int.eq_ofNat_of_zero_le n0
              have hz : c + y ≤ s.size := by omega
              have hz1 : (c : Int) + (y : Int) ≤ (s.size : Int) := by omega
              have hz2 : (c : Int) ≤ (c : Int) + (y : Int) := by omega
              have hz3 : ((c : Int) + (y : Int)).toNat = c + y := by omega
              have g : ((c + (y : Int).toNat : Nat) : Int) = (c : Int) + (y : Int) := by omega
              have g3 : (y : Int).toNat = y := by omega
              simp only [g3] at g ⊢
              rw [g]
              go_enter Try.func143, Try.ntmps143
              go_wp2_with fail
              refine (RB.out _).mono ?_
              rintro e w1 ⟨rfl, h1⟩
              obtain ⟨⟨r0, r1, r2⟩, ⟨c0, c1, c2⟩, fr, fc, hsz⟩ := two_fields _ _ _ _ h1
              have hb1 := Below.go (((Below.refl w.heap.size w).alloc (Nat.le_refl _) _).alloc (by simp) _) h1
              have fr0 := fr 0; have fr1 := fr 1; have fr2 := fr 2; have fc0 := fc 0; have fc1 := fc 1; have fc2 := fc 2
              have BW : Hid (Below w.heap.size w w1) := Lib.hid hb1
              clear h1 fr fc hb1
              go_wp2
              refine wp_loop_rounds 1 ?_
              rw [rounds_succ]
              go_wp2_with fail
              refine (SE.out _).mono ?_
              rintro e w' ⟨rfl, rfl⟩
              go_wp2
              (try simp only [Exit.inBlock, Exit.then])
              refine bodyPost_ret (v := .tuple #[.agg #[.int .i64 6, .int .u64 0, .string (s.extract c (c + y))], .int .i64 (c + y), .int .i64 0]) (by simp [results, Try.results143, go_sem, *]) rfl ⟨rfl, (((BW.out.setCell (Nat.le_succ _) _).setCell (Nat.le_refl _) _).setCell (Nat.le_refl _) _).setCell (Nat.le_refl _) _⟩
        · rw [if_pos hx]
          have gx : (x != 0) = true := by simp [hx]
          have hn : n = 0 ∧ c = 0 := by rcases hr with h | h <;> omega
          obtain ⟨rfl, rfl⟩ := hn
          clear hx hr
          simp only
          go_enter Try.func143, Try.ntmps143
          go_wp2_with fail
          refine (RB.out _).mono ?_
          rintro e w1 ⟨rfl, h1⟩
          obtain ⟨⟨r0, r1, r2⟩, ⟨c0, c1, c2⟩, fr, fc, hsz⟩ := two_fields _ _ _ _ h1
          have hb1 := Below.go (((Below.refl w.heap.size w).alloc (Nat.le_refl _) _).alloc (by simp) _) h1
          have fr0 := fr 0; have fr1 := fr 1; have fr2 := fr 2; have fc0 := fc 0; have fc1 := fc 1; have fc2 := fc 2
          have BW : Hid (Below w.heap.size w w1) := Lib.hid hb1
          clear h1 fr fc hb1
          go_wp2
          refine wp_loop_rounds 1 ?_
          rw [rounds_succ]
          go_wp2_with fail
          refine (SE.out _).mono ?_
          rintro e w' ⟨rfl, rfl⟩
          go_wp2
          (try simp only [Exit.inBlock, Exit.then])
          refine bodyPost_ret (v := .tuple #[.agg #[.int .i64 6, .int .u64 0, .string ⟨#[]⟩], .int .i64 0, .int .i64 x]) (by simp [results, Try.results143, go_sem, *]) rfl ⟨rfl, (((BW.out.setCell (Nat.le_succ _) _).setCell (Nat.le_refl _) _).setCell (Nat.le_refl _) _).setCell (Nat.le_refl _) _⟩
end Go.Proofs.Ytdlcipbehalfhaa
