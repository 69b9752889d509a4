/-
  Package trace, the records that bytes begin with. What lay below the heap's end stands.
-/
import Derived.Test.YtapjebhdgcpdjaaTc6
import Derived.Test.YtapjebhdgcpdjaaTc5b
namespace Go.Proofs.Ytapjebhdgcpdjaa
set_option linter.unusedVariables false
set_option linter.unusedSimpArgs false
open Go.ChangeShapes Go.WideShapes Go.ChangeAt Go.RowKit
attribute [-go_sem] run_index_string binOp_string_eql binOp_string_neq run_string_add_if run_slice_string_from_if run_slice_string_to_if run_slice_string
attribute [local go_sem] index_bt add_fits slice_from slice_to eql_str neq_str alloc_drewN setCell_drewN slice_mid39

theorem sub39_is (s : ByteArray) (k : Nat) (I : Int) (hI : I = 30 * (k : Int)) (h : 30 * k + 30 ≤ s.size) : (sub39 s I (I + 30)).size = 30 ∧ (good (sub39 s I (I + 30)) 0 ↔ good s (30 * k)) ∧ dec (sub39 s I (I + 30)) 0 = dec s (30 * k) := by
  have e : sub39 s I (I + 30) = s.extract (30 * k) (30 * k + 30) := by
    unfold sub39
    have e1 : I.toNat = 30 * k := by omega
    have e2 : (I + 30).toNat = 30 * k + 30 := by omega
    rw [e1, e2]
  rw [e]
  have z := size_ext s (30 * k) (30 * k + 30) h
  obtain ⟨a, b⟩ := good_alone s (30 * k) h
  exact ⟨by omega, a, b⟩
set_option maxRecDepth 100000 in
set_option maxHeartbeats 2000000 in
theorem tcread (s : ByteArray) (hs : s.size ≤ 100000) (w : World) :
    Calls Try.prog 33 #[.string s] w fun e w' => ∃ v k, e = .returned (.tuple #[v, .int .i64 (30 * (k : Nat))]) ∧ IsRd s k ∧ RRow w w' v (rl s k) ∧ Below w.heap.size w w' := by
  obtain ⟨i0, hi, hz0, hz1, hz2⟩ := info_parts infoRc
  go_enter Try.func33, Try.ntmps33
  go_wp2
  go_loopw [4, 5] (fun x y wr => ∃ (v : Value) (k : Nat) (I : Int), v = x ∧ I = 30 * (k : Int) ∧ y = .int .i64 I ∧ I ≤ s.size ∧ Hid (∀ j, j < k → good s (30 * j)) ∧ RRow w wr v (rl s k) ∧ Below w.heap.size w wr) (fun _ y _ => s.size - (intOf y).toNat)
  case atStart => exact ⟨_, 0, 0, rfl, rfl, rfl, by omega, Lib.hid (fun j h => absurd h (by omega)), World.ownsRow_nil _ _ _ _, Below.refl _ _⟩
  case round =>
    obtain ⟨v, k, I, rfl, hI, rfl, hle, hg, ho, hbw⟩ := hrel
    have hsize := hbw.size
    have HI := Lib.hid hI
    have i0_ : 0 ≤ I := by omega
    by_cases hlt : 30 * k + 30 ≤ s.size
    · obtain ⟨z30, ga, da⟩ := sub39_is s k I hI hlt
      have hlt2 : I + 30 ≤ (s.size : Int) := by omega
      have hgeq : ((s.size : Int) - I) ≥ 30 := by omega
      have hmid : Mid39 s I (I + 30) := ⟨by omega, by omega, hlt2⟩
      have TK := Lib.hid (fun W => ttake_any (sub39 s I (I + 30)) z30 W)
      obtain ⟨X, hX⟩ : ∃ X, sub39 s I (I + 30) = X := ⟨_, rfl⟩
      rw [hX] at ga da
      have HX := Lib.hid hX
      have HO := Lib.hid ho; have HB := Lib.hid hbw
      have HRL := rl_len s k
      have HSN := Lib.hid (rl_snoc s k)
      have GA := Lib.hid ga; have DA := Lib.hid da
      clear hI hX ho hbw ga da z30
      by_cases hgk : good s (30 * k)
      · have TK2 : Hid (∀ W, Calls Try.prog 63 #[.string (sub39 s I (I + 30))] W fun e w' => e = .returned (.tuple #[(dec s (30 * k)).val, .bool true]) ∧ Below W.heap.size W w') := Lib.hid fun W => by
          have h1 := TK.out W
          rw [HX.out] at h1 ⊢
          have g0 := GA.out.2 hgk
          rw [decide_eq_true g0] at h1
          refine h1.mono ?_
          rintro e w' ⟨y, rfl, hy, hb⟩
          exact ⟨by rw [hy g0, DA.out], hb⟩
        have HGK := Lib.hid hgk
        clear TK GA hgk
        obtain ⟨y, hy⟩ : ∃ y, dec s (30 * k) = y := ⟨_, rfl⟩
        rw [hy] at TK2
        have HSN2 : Hid (rl s (k + 1) = rl s k ++ [y]) := Lib.hid (by rw [HSN.out, hy])
        clear HSN DA hy
        obtain ⟨yt, yk, yf, yi, yn, yc⟩ := y
        unfold Rec.val at TK2
        simp only at TK2
        obtain ⟨L, hL⟩ : ∃ L, rl s k = L := ⟨_, rfl⟩
        rw [hL] at HSN2 HO HRL
        clear hL
        go_wp2_with fail
        refine (TK2.out _).mono ?_
        rintro e w1 ⟨rfl, h1⟩
        have hs1 := h1.size
        have ho1 : w1.ownsRow w.heap.size 64 6 v L.length (L.flatMap Rec.cells) :=
          World.ownsRow.kept HO.out (row := some w1.heap.size) ⟨h1.os, h1.tape, h1.output, h1.size, fun k hk _ => h1.block k hk⟩ (Or.inr (fun h => by
            have := World.ownsRow.lt HO.out _ h
            omega))
        have HO1 := Lib.hid ho1
        have HB1 : Hid (Below w.heap.size w w1) := Lib.hid (HB.out.trans (h1.mono hsize))
        clear ho1 h1
        go_wp2_with (at_builtin; refine wpList_append_own _ rfl _ _ 61 rfl w.heap.size 64 i0 (.agg #[.int .u64 0, .int .i64 0, .int .u32 0, .int .u32 0, .int .u64 0, .int .i64 0]) 6 40 Try.underlying61 hi hz0 hz1 hz2 rfl (by decide) _ _ _ rfl ((HO1.out.alloc _).alloc _) ⟨w1.heap.size + 1, 0, none⟩ 1 1 [.int .u64 yt, .int .i64 yk, .int .u32 yf, .int .u32 yi, .int .u64 yn, .int .i64 yc] rfl rfl (cells_new2 _ _ #[.int .u64 yt, .int .i64 yk, .int .u32 yf, .int .u32 yi, .int .u64 yn, .int .i64 yc] _) (fun x hx => by simp at hx; rcases hx with rfl | rfl | rfl | rfl | rfl | rfl <;> rfl) (by unfold maxLen; omega) (by omega) (by simp; omega) ?_; intro v' w3 hown' hgrow3 hnil3; clear hnil3)
        go_roundw
        case rel =>
          refine ⟨v', k + 1, I + 30, rfl, by have := HI.out; omega, rfl, by omega, Lib.hid (fun j hj => ?_), ?_, ?_⟩
          · by_cases h : j = k
            · rw [h]; exact HGK.out
            · exact hg.out j (by omega)
          · rw [HSN2.out]; exact RRow.snoc hown'
          · exact ((HB1.out.alloc (by omega) _).alloc (by simp; omega) _).grown hgrow3 (by simp; omega) (fun g hg => (World.ownsRow.lt HO.out g hg).1)
        case measure => simp [intOf]; omega
      · have TK2 : Hid (∀ W, Calls Try.prog 63 #[.string (sub39 s I (I + 30))] W fun e w' => ∃ y : Rec, e = .returned (.tuple #[y.val, .bool false]) ∧ Below W.heap.size W w') := Lib.hid fun W => by
          have h1 := TK.out W
          rw [HX.out] at h1 ⊢
          have g0 : ¬ good X 0 := fun g => hgk (GA.out.1 g)
          rw [decide_eq_false g0] at h1
          refine h1.mono ?_
          rintro e w' ⟨y, rfl, hy, hb⟩
          exact ⟨y, rfl, hb⟩
        have HGK := Lib.hid hgk
        clear TK GA DA hgk
        go_wp2_with fail
        refine (TK2.out _).mono ?_
        rintro e w1 ⟨⟨yt, yk, yf, yi, yn, yc⟩, rfl, h1⟩
        unfold Rec.val
        simp only
        have hs1 := h1.size
        have ho1 : w1.ownsRow w.heap.size 64 6 v (rl s k).length ((rl s k).flatMap Rec.cells) :=
          World.ownsRow.kept HO.out (row := some w1.heap.size) ⟨h1.os, h1.tape, h1.output, h1.size, fun k hk _ => h1.block k hk⟩ (Or.inr (fun h => by
            have := World.ownsRow.lt HO.out _ h
            omega))
        have HO1 := Lib.hid ho1
        have HB1 : Hid (Below w.heap.size w w1) := Lib.hid (HB.out.trans (h1.mono hsize))
        clear ho1 h1
        go_wp2
        go_ret2
        exact ⟨v, k, by rw [HI.out]; rfl, ⟨hg.out, HGK.out⟩, HO1.out.alloc _, HB1.out.alloc (by omega) _⟩
    · have hgeq : ¬ ((s.size : Int) - I) ≥ 30 := by omega
      have HN := Lib.hid hlt
      clear hI hlt
      have HO := Lib.hid ho; have HB := Lib.hid hbw
      clear ho hbw
      go_wp2
      go_ret2
      exact ⟨v, k, by rw [HI.out]; rfl, ⟨hg.out, fun g => HN.out g.1⟩, HO.out, HB.out⟩
end Go.Proofs.Ytapjebhdgcpdjaa
