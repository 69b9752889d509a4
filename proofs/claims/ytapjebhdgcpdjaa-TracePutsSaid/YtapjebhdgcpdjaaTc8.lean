/-
  The document's answer for layer 39, the records that bytes begin with. What lay below the heap's end stands.
-/
import Derived.Test.YtapjebhdgcpdjaaTc5b
import Derived.Deep.CutBlock
import Derived.Deep.DeepCutAuto
namespace Go.Proofs.Ytapjebhdgcpdjaa
set_option linter.unusedVariables false
set_option linter.unusedSimpArgs false
open Go.ChangeShapes Go.WideShapes Go.ChangeAt Go.RowKit
attribute [-go_sem] run_index_string binOp_string_eql binOp_string_neq run_string_add_if run_slice_string_from_if run_slice_string_to_if run_slice_string
attribute [local go_sem] index_at add_fits slice_from slice_to eql_str neq_str alloc_drewN setCell_drewN slice_mid39

theorem rnumI (s : ByteArray) (hs : s.size ≤ 100000) (i m : Int) (i0 : 0 ≤ i) (m0 : 0 ≤ m) (m8 : m ≤ 8) (h : i + m ≤ s.size) (w : World) :
    Calls Try.prog 64 #[.string s, .int .i64 i, .int .i64 m] w fun e w' => e = .returned (.int .u64 (num s i.toNat m.toNat)) ∧ w = w' := by
  have h1 := rnum39 s i.toNat m.toNat (by omega) (by omega) (by omega) w
  have e1 : ((i.toNat : Nat) : Int) = i := by omega
  have e2 : ((m.toNat : Nat) : Int) = m := by omega
  rw [e1, e2] at h1
  exact h1
set_option maxRecDepth 100000 in
set_option maxHeartbeats 4000000 in
theorem rread39 (s : ByteArray) (hs : s.size ≤ 100000) (w : World) :
    Calls Try.prog 34 #[.string s] w fun e w' => ∃ v k, e = .returned (.tuple #[v, .int .i64 (30 * (k : Nat))]) ∧ IsRd s k ∧ RRow w w' v (rl s k) ∧ Below w.heap.size w w' := by
  obtain ⟨i0, hi, hz0, hz1, hz2⟩ := info_parts infoRc
  go_enter Try.func34, Try.ntmps34
  go_wp2
  go_loopw [4, 5] (fun x y wr => ∃ (v : Value) (k : Nat) (I : Int), v = x ∧ I = 30 * (k : Int) ∧ y = .int .i64 I ∧ I ≤ s.size ∧ Hid (∀ j, j < k → good s (30 * j)) ∧ RRow w wr v (rl s k) ∧ Below w.heap.size w wr) (fun _ y _ => s.size - (intOf y).toNat)
  case atStart => exact ⟨_, 0, 0, rfl, rfl, rfl, by omega, Lib.hid (fun j h => absurd h (by omega)), World.ownsRow_nil _ _ _ _, Below.refl _ _⟩
  case round =>
    obtain ⟨v, k, I, rfl, hI, rfl, hle, hg, ho, hbw⟩ := hrel
    have hsize := hbw.size
    have HI := Lib.hid hI
    have i0_ : 0 ≤ I := by omega
    by_cases hlt : 30 * k + 30 ≤ s.size
    · have hlt2 : I + 30 ≤ (s.size : Int) := by omega
      have hmid : Mid39 s I (I + 30) := ⟨by omega, by omega, hlt2⟩
      have a8 : AtS s (I + 8) := ⟨by omega⟩
      have a25 : AtS s (I + 25) := ⟨by omega⟩
      have hI0 : I.toNat = 30 * k := by omega
      have hI9 : (I + 9).toNat = 30 * k + 9 := by omega
      have hI13 : (I + 13).toNat = 30 * k + 13 := by omega
      have hI17 : (I + 17).toNat = 30 * k + 17 := by omega
      have hI8 : I + 8 = ((30 * k + 8 : Nat) : Int) := by omega
      have hI25 : I + 25 = ((30 * k + 25 : Nat) : Int) := by omega
      have NM := Lib.hid (fun i m i0 m0 m8 h W => rnumI s hs i m i0 m0 m8 h W)
      have n0 := num8 s (30 * k)
      have n9 := num4 s (30 * k + 9)
      have n13 := num4 s (30 * k + 13)
      have n17 := num8 s (30 * k + 17)
      have b8 := bt_bd s (I + 8)
      have b25 := bt_bd s (I + 25)
      have hd : dec s (30 * k) = ⟨num s I.toNat (8 : Int).toNat, bt s (I + 8), num s (I + 9).toNat (4 : Int).toNat, num s (I + 13).toNat (4 : Int).toNat, num s (I + 17).toNat (8 : Int).toNat, bt s (I + 25)⟩ := by
        rw [hI0, hI9, hI13, hI17, hI8, hI25]; rfl
      have hsb : sub39 s I (I + 30) = s.extract (30 * k) (30 * k + 30) := by
        unfold sub39
        have e2 : (I + 30).toNat = 30 * k + 30 := by omega
        rw [hI0, e2]
      rw [← hI0] at n0
      rw [← hI9] at n9
      rw [← hI13] at n13
      rw [← hI17] at n17
      have e8 : (8 : Int).toNat = 8 := rfl
      have e4 : (4 : Int).toNat = 4 := rfl
      rw [← e8] at n0 n17
      rw [← e4] at n9 n13
      clear hI0 hI9 hI13 hI17 hI8 hI25 e8 e4
      have s8 : IntKind.i64.wrap (I + 8) = I + 8 := by rw [IntKind.wrap_i64]; omega
      have s9 : IntKind.i64.wrap (I + 9) = I + 9 := by rw [IntKind.wrap_i64]; omega
      have s13 : IntKind.i64.wrap (I + 13) = I + 13 := by rw [IntKind.wrap_i64]; omega
      have s17 : IntKind.i64.wrap (I + 17) = I + 17 := by rw [IntKind.wrap_i64]; omega
      have s25 : IntKind.i64.wrap (I + 25) = I + 25 := by rw [IntKind.wrap_i64]; omega
      have s30 : IntKind.i64.wrap (I + 30) = I + 30 := by rw [IntKind.wrap_i64]; omega
      have w8 : IntKind.i64.wrap (bt s (I + 8)) = bt s (I + 8) := by rw [IntKind.wrap_i64]; omega
      have w25 : IntKind.i64.wrap (bt s (I + 25)) = bt s (I + 25) := by rw [IntKind.wrap_i64]; omega
      obtain ⟨NU, hNU⟩ : ∃ NU : Int → Int → Int, ∀ i m : Int, num s i.toNat m.toNat = NU i m := ⟨fun i m => num s i.toNat m.toNat, fun _ _ => rfl⟩
      simp only [hNU] at NM n0 n9 n13 n17 hd
      have w9 : IntKind.u32.wrap (NU (I + 9) 4) = NU (I + 9) 4 := wraps_u32 _ n9.1 (by omega)
      have w13 : IntKind.u32.wrap (NU (I + 13) 4) = NU (I + 13) 4 := wraps_u32 _ n13.1 (by omega)
      clear hNU
      have HD := Lib.hid hd
      have HSB := Lib.hid hsb
      have HO := Lib.hid ho; have HB := Lib.hid hbw
      have HRL := rl_len s k
      have HSN := Lib.hid (rl_snoc s k)
      have HLT := Lib.hid hlt
      have hkb : k ≤ 4000 := by omega
      have DOK := Lib.hid (dec_ok s (30 * k))
      obtain ⟨n00, n01⟩ := n0
      obtain ⟨n90, n91⟩ := n9
      obtain ⟨n130, n131⟩ := n13
      obtain ⟨n170, n171⟩ := n17
      obtain ⟨b80, b81⟩ := b8
      obtain ⟨b250, b251⟩ := b25
      clear hI hd hsb ho hbw hlt
      go_upto_region 4 with (fail)
      go_cut [6] (fun v6 wx => v6 = .pointer (some ⟨wr.heap.size, 0, none⟩) ∧ Hid (Below wr.heap.size wr wx) ∧ Hid (wx.heap[wr.heap.size]? = some (.cells #[.int .u64 (NU I 8), .int .i64 (bt s (I + 8)), .int .u32 (NU (I + 9) 4), .int .u32 (NU (I + 13) 4), .int .u64 (NU (I + 17) 8), .int .i64 (bt s (I + 25))] 64 (0, 0))))
      case first =>
        refine wp_region_any (by kernel_rfl) ?_
        (try (change wpAny _ _ _ _ _ _ _ (World.drew _)))
        refine wpAny_take (i := 0) (v := ?_) rfl (by kernel_rfl) (by kernel_rfl) (by kernel_rfl) (fun _ _ _ h => h) (Or.inl ⟨by rfl, ?_⟩) ?_
        case refine_2 =>
          intro w
          go_simp
          (try with_reducible rfl)
        refine wpAny_take (i := 1) (v := ?_) rfl (by kernel_rfl) (by kernel_rfl) (by kernel_rfl) (fun _ _ _ h => h) (Or.inl ⟨by rfl, ?_⟩) ?_
        case refine_2 =>
          intro w
          go_simp
          (try with_reducible rfl)
        refine wpAny_take (i := 3) (v := ?_) rfl (by kernel_rfl) (by kernel_rfl) (by kernel_rfl) (fun _ _ _ h => h) (Or.inl ⟨by rfl, ?_⟩) ?_
        case refine_2 =>
          intro w
          go_simp
          (try with_reducible rfl)
        refine wpAny_take (i := 4) (v := ?_) rfl (by kernel_rfl) (by kernel_rfl) (by kernel_rfl) (fun _ _ _ h => h) (Or.inl ⟨by rfl, ?_⟩) ?_
        case refine_2 =>
          intro w
          go_simp
          (try with_reducible rfl)
        refine wpAny_take (i := 5) (v := ?_) rfl (by kernel_rfl) (by kernel_rfl) (by kernel_rfl) (fun _ _ _ h => h) (Or.inl ⟨by rfl, ?_⟩) ?_
        case refine_2 =>
          intro w
          go_simp
          (try with_reducible rfl)
        refine wpAny_take (i := 6) (v := ?_) rfl (by kernel_rfl) (by kernel_rfl) (by kernel_rfl) (fun _ _ _ h => h) (Or.inl ⟨by rfl, ?_⟩) ?_
        case refine_2 =>
          intro w
          go_simp
          (try with_reducible rfl)
        refine wpAny_take (i := 7) (v := ?_) rfl (by kernel_rfl) (by kernel_rfl) (by kernel_rfl) (fun _ _ _ h => h) (Or.inl ⟨by rfl, ?_⟩) ?_
        case refine_2 =>
          intro w
          go_simp
          (try with_reducible rfl)
        refine wpAny_take (i := 8) (v := ?_) rfl (by kernel_rfl) (by kernel_rfl) (by kernel_rfl) (fun _ _ _ h => h) (Or.inl ⟨by rfl, ?_⟩) ?_
        case refine_2 =>
          intro w
          go_simp
          (try with_reducible rfl)
        refine wpAny_take (i := 9) (v := ?_) rfl (by kernel_rfl) (by kernel_rfl) (by kernel_rfl) (fun _ _ _ h => h) (Or.inl ⟨by rfl, ?_⟩) ?_
        case refine_2 =>
          intro w
          go_simp
          (try with_reducible rfl)
        refine wpAny_take (i := 10) (v := ?_) rfl (by kernel_rfl) (by kernel_rfl) (by kernel_rfl) (fun _ _ _ h => h) (Or.inl ⟨by rfl, ?_⟩) ?_
        case refine_2 =>
          intro w
          go_simp
          (try with_reducible rfl)
        refine wpAny_take (i := 13) (v := ?_) rfl (by kernel_rfl) (by kernel_rfl) (by kernel_rfl) (fun _ _ _ h => h) (Or.inl ⟨by rfl, ?_⟩) ?_
        case refine_2 =>
          intro w
          go_simp
          (try with_reducible rfl)
        refine wpAny_take (i := 14) (v := ?_) rfl (by kernel_rfl) (by kernel_rfl) (by kernel_rfl) (fun _ _ _ h => h) (Or.inl ⟨by rfl, ?_⟩) ?_
        case refine_2 =>
          intro w
          go_simp
          (try with_reducible rfl)
        refine wpAny_take (i := 15) (v := ?_) rfl (by kernel_rfl) (by kernel_rfl) (by kernel_rfl) (fun _ _ _ h => h) (Or.inl ⟨by rfl, ?_⟩) ?_
        case refine_2 =>
          intro w
          go_simp
          (try with_reducible rfl)
        refine wpAny_take (i := 18) (v := ?_) rfl (by kernel_rfl) (by kernel_rfl) (by kernel_rfl) (fun _ _ _ h => h) (Or.inl ⟨by rfl, ?_⟩) ?_
        case refine_2 =>
          intro w
          go_simp
          (try with_reducible rfl)
        refine wpAny_take (i := 19) (v := ?_) rfl (by kernel_rfl) (by kernel_rfl) (by kernel_rfl) (fun _ _ _ h => h) (Or.inl ⟨by rfl, ?_⟩) ?_
        case refine_2 =>
          intro w
          go_simp
          (try with_reducible rfl)
        refine wpAny_take (i := 20) (v := ?_) rfl (by kernel_rfl) (by kernel_rfl) (by kernel_rfl) (fun _ _ _ h => h) (Or.inl ⟨by rfl, ?_⟩) ?_
        case refine_2 =>
          intro w
          go_simp
          (try with_reducible rfl)
        refine wpAny_take (i := 22) (v := ?_) rfl (by kernel_rfl) (by kernel_rfl) (by kernel_rfl) (fun _ _ _ h => h) (Or.inl ⟨by rfl, ?_⟩) ?_
        case refine_2 =>
          intro w
          go_simp
          (try with_reducible rfl)
        refine wpAny_take (i := 23) (v := ?_) rfl (by kernel_rfl) (by kernel_rfl) (by kernel_rfl) (fun _ _ _ h => h) (Or.inl ⟨by rfl, ?_⟩) ?_
        case refine_2 =>
          intro w
          go_simp
          (try with_reducible rfl)
        refine wpAny_take (i := 24) (v := ?_) rfl (by kernel_rfl) (by kernel_rfl) (by kernel_rfl) (fun _ _ _ h => h) (Or.inl ⟨by rfl, ?_⟩) ?_
        case refine_2 =>
          intro w
          go_simp
          (try with_reducible rfl)
        refine wpAny_take (i := 25) (v := ?_) rfl (by kernel_rfl) (by kernel_rfl) (by kernel_rfl) (fun _ _ _ h => h) (Or.inl ⟨by rfl, ?_⟩) ?_
        case refine_2 =>
          intro w
          go_simp
          (try with_reducible rfl)
        refine wpAny_take (i := 26) (v := ?_) rfl (by kernel_rfl) (by kernel_rfl) (by kernel_rfl) (fun _ _ _ h => h) (Or.inl ⟨by rfl, ?_⟩) ?_
        case refine_2 =>
          intro w
          go_simp
          (try with_reducible rfl)
        refine wpAny_ready (rs := [2, 28]) (by kernel_rfl) (by simp) ?_
        refine (AllReady.cons rfl (fun K hK => ?_) (AllReady.cons rfl (fun K hK => ?_) AllReady.nil))
        · go_simp
          refine (NM.out _ _ (by omega) (by omega) (by omega) (by omega) _).mono ?_
          rintro e w9 ⟨rfl, rfl⟩
          go_simp
          refine hK _ _ ?_
          clear hK K
          refine wpAny_ready (rs := [11, 28]) (by kernel_rfl) (by simp) ?_
          refine (AllReady.cons rfl (fun K hK => ?_) (AllReady.cons rfl (fun K hK => ?_) AllReady.nil))
          · go_simp
            refine (NM.out _ _ (by omega) (by omega) (by omega) (by omega) _).mono ?_
            rintro e w9 ⟨rfl, rfl⟩
            go_simp
            refine hK _ _ ?_
            clear hK K
            refine wpAny_take (i := 12) (v := ?_) rfl (by kernel_rfl) (by kernel_rfl) (by kernel_rfl) (fun _ _ _ h => h) (Or.inl ⟨by rfl, ?_⟩) ?_
            case refine_2 =>
              intro w
              go_simp
              (try with_reducible rfl)
            refine wpAny_ready (rs := [16, 28]) (by kernel_rfl) (by simp) ?_
            refine (AllReady.cons rfl (fun K hK => ?_) (AllReady.cons rfl (fun K hK => ?_) AllReady.nil))
            · go_simp
              refine (NM.out _ _ (by omega) (by omega) (by omega) (by omega) _).mono ?_
              rintro e w9 ⟨rfl, rfl⟩
              go_simp
              refine hK _ _ ?_
              clear hK K
              refine wpAny_take (i := 17) (v := ?_) rfl (by kernel_rfl) (by kernel_rfl) (by kernel_rfl) (fun _ _ _ h => h) (Or.inl ⟨by rfl, ?_⟩) ?_
              case refine_2 =>
                intro w
                go_simp
                (try with_reducible rfl)
              refine wpAny_ready (rs := [21, 28]) (by kernel_rfl) (by simp) ?_
              refine (AllReady.cons rfl (fun K hK => ?_) (AllReady.cons rfl (fun K hK => ?_) AllReady.nil))
              · go_simp
                refine (NM.out _ _ (by omega) (by omega) (by omega) (by omega) _).mono ?_
                rintro e w9 ⟨rfl, rfl⟩
                go_simp
                refine hK _ _ ?_
                clear hK K
                refine wpAny_take (i := 27) (v := ?_) rfl (by kernel_rfl) (by kernel_rfl) (by kernel_rfl) (fun _ _ _ h => h) (Or.inl ⟨by rfl, ?_⟩) ?_
                case refine_2 =>
                  intro w
                  go_simp
                  (try with_reducible rfl)
                refine wpAny_ready (rs := [28]) (by kernel_rfl) (by simp) ?_
                refine AllReady.cons rfl (fun K hK => ?_) AllReady.nil
                go_simp
                refine hK _ _ ?_
                clear hK K
                refine wpAny_ready (rs := [29]) (by kernel_rfl) (by simp) ?_
                refine AllReady.cons rfl (fun K hK => ?_) AllReady.nil
                go_simp
                refine hK _ _ ?_
                clear hK K
                refine wpAny_done (by kernel_rfl) ?_ _
                (try simp only [Exit.then])
                go_wp2_with fail
                go_meet
                case rel =>
                  refine ⟨rfl, Lib.hid ?_, Lib.hid ?_⟩
                  · (repeat' (first | (with_reducible exact Below.refl _ _) | (with_reducible assumption) | (with_reducible refine below_drewN _ ?_) | (with_reducible refine Below.drew ?_) | (with_reducible refine Below.setCell ?_ (by first | omega | (simp; done) | (simp; omega)) _) | (with_reducible refine Below.alloc ?_ (by first | omega | (simp; done) | (simp; omega)) _)))
                  · (repeat' (first | (with_reducible exact heap_alloc_new _ _) | (with_reducible refine blk_drew ?_) | (with_reducible apply put6_0) | (with_reducible apply put6_1) | (with_reducible apply put6_2) | (with_reducible apply put6_3) | (with_reducible apply put6_4) | (with_reducible apply put6_5)))
              · go_simp
                refine hK _ _ ?_
                clear hK K
                refine wpAny_ready (rs := [21]) (by kernel_rfl) (by simp) ?_
                refine AllReady.cons rfl (fun K hK => ?_) AllReady.nil
                go_simp
                refine (NM.out _ _ (by omega) (by omega) (by omega) (by omega) _).mono ?_
                rintro e w9 ⟨rfl, rfl⟩
                go_simp
                refine hK _ _ ?_
                clear hK K
                refine wpAny_take (i := 27) (v := ?_) rfl (by kernel_rfl) (by kernel_rfl) (by kernel_rfl) (fun _ _ _ h => h) (Or.inl ⟨by rfl, ?_⟩) ?_
                case refine_2 =>
                  intro w
                  go_simp
                  (try with_reducible rfl)
                refine wpAny_ready (rs := [29]) (by kernel_rfl) (by simp) ?_
                refine AllReady.cons rfl (fun K hK => ?_) AllReady.nil
                go_simp
                refine hK _ _ ?_
                clear hK K
                refine wpAny_done (by kernel_rfl) ?_ _
                (try simp only [Exit.then])
                go_wp2_with fail
                go_meet
                case rel =>
                  refine ⟨rfl, Lib.hid ?_, Lib.hid ?_⟩
                  · (repeat' (first | (with_reducible exact Below.refl _ _) | (with_reducible assumption) | (with_reducible refine below_drewN _ ?_) | (with_reducible refine Below.drew ?_) | (with_reducible refine Below.setCell ?_ (by first | omega | (simp; done) | (simp; omega)) _) | (with_reducible refine Below.alloc ?_ (by first | omega | (simp; done) | (simp; omega)) _)))
                  · (repeat' (first | (with_reducible exact heap_alloc_new _ _) | (with_reducible refine blk_drew ?_) | (with_reducible apply put6_0) | (with_reducible apply put6_1) | (with_reducible apply put6_2) | (with_reducible apply put6_3) | (with_reducible apply put6_4) | (with_reducible apply put6_5)))
            · go_simp
              refine hK _ _ ?_
              clear hK K
              refine wpAny_ready (rs := [16]) (by kernel_rfl) (by simp) ?_
              refine AllReady.cons rfl (fun K hK => ?_) AllReady.nil
              go_simp
              refine (NM.out _ _ (by omega) (by omega) (by omega) (by omega) _).mono ?_
              rintro e w9 ⟨rfl, rfl⟩
              go_simp
              refine hK _ _ ?_
              clear hK K
              refine wpAny_take (i := 17) (v := ?_) rfl (by kernel_rfl) (by kernel_rfl) (by kernel_rfl) (fun _ _ _ h => h) (Or.inl ⟨by rfl, ?_⟩) ?_
              case refine_2 =>
                intro w
                go_simp
                (try with_reducible rfl)
              refine wpAny_ready (rs := [21]) (by kernel_rfl) (by simp) ?_
              refine AllReady.cons rfl (fun K hK => ?_) AllReady.nil
              go_simp
              refine (NM.out _ _ (by omega) (by omega) (by omega) (by omega) _).mono ?_
              rintro e w9 ⟨rfl, rfl⟩
              go_simp
              refine hK _ _ ?_
              clear hK K
              refine wpAny_take (i := 27) (v := ?_) rfl (by kernel_rfl) (by kernel_rfl) (by kernel_rfl) (fun _ _ _ h => h) (Or.inl ⟨by rfl, ?_⟩) ?_
              case refine_2 =>
                intro w
                go_simp
                (try with_reducible rfl)
              refine wpAny_ready (rs := [29]) (by kernel_rfl) (by simp) ?_
              refine AllReady.cons rfl (fun K hK => ?_) AllReady.nil
              go_simp
              refine hK _ _ ?_
              clear hK K
              refine wpAny_done (by kernel_rfl) ?_ _
              (try simp only [Exit.then])
              go_wp2_with fail
              go_meet
              case rel =>
                refine ⟨rfl, Lib.hid ?_, Lib.hid ?_⟩
                · (repeat' (first | (with_reducible exact Below.refl _ _) | (with_reducible assumption) | (with_reducible refine below_drewN _ ?_) | (with_reducible refine Below.drew ?_) | (with_reducible refine Below.setCell ?_ (by first | omega | (simp; done) | (simp; omega)) _) | (with_reducible refine Below.alloc ?_ (by first | omega | (simp; done) | (simp; omega)) _)))
                · (repeat' (first | (with_reducible exact heap_alloc_new _ _) | (with_reducible refine blk_drew ?_) | (with_reducible apply put6_0) | (with_reducible apply put6_1) | (with_reducible apply put6_2) | (with_reducible apply put6_3) | (with_reducible apply put6_4) | (with_reducible apply put6_5)))
          · go_simp
            refine hK _ _ ?_
            clear hK K
            refine wpAny_ready (rs := [11]) (by kernel_rfl) (by simp) ?_
            refine AllReady.cons rfl (fun K hK => ?_) AllReady.nil
            go_simp
            refine (NM.out _ _ (by omega) (by omega) (by omega) (by omega) _).mono ?_
            rintro e w9 ⟨rfl, rfl⟩
            go_simp
            refine hK _ _ ?_
            clear hK K
            refine wpAny_take (i := 12) (v := ?_) rfl (by kernel_rfl) (by kernel_rfl) (by kernel_rfl) (fun _ _ _ h => h) (Or.inl ⟨by rfl, ?_⟩) ?_
            case refine_2 =>
              intro w
              go_simp
              (try with_reducible rfl)
            refine wpAny_ready (rs := [16]) (by kernel_rfl) (by simp) ?_
            refine AllReady.cons rfl (fun K hK => ?_) AllReady.nil
            go_simp
            refine (NM.out _ _ (by omega) (by omega) (by omega) (by omega) _).mono ?_
            rintro e w9 ⟨rfl, rfl⟩
            go_simp
            refine hK _ _ ?_
            clear hK K
            refine wpAny_take (i := 17) (v := ?_) rfl (by kernel_rfl) (by kernel_rfl) (by kernel_rfl) (fun _ _ _ h => h) (Or.inl ⟨by rfl, ?_⟩) ?_
            case refine_2 =>
              intro w
              go_simp
              (try with_reducible rfl)
            refine wpAny_ready (rs := [21]) (by kernel_rfl) (by simp) ?_
            refine AllReady.cons rfl (fun K hK => ?_) AllReady.nil
            go_simp
            refine (NM.out _ _ (by omega) (by omega) (by omega) (by omega) _).mono ?_
            rintro e w9 ⟨rfl, rfl⟩
            go_simp
            refine hK _ _ ?_
            clear hK K
            refine wpAny_take (i := 27) (v := ?_) rfl (by kernel_rfl) (by kernel_rfl) (by kernel_rfl) (fun _ _ _ h => h) (Or.inl ⟨by rfl, ?_⟩) ?_
            case refine_2 =>
              intro w
              go_simp
              (try with_reducible rfl)
            refine wpAny_ready (rs := [29]) (by kernel_rfl) (by simp) ?_
            refine AllReady.cons rfl (fun K hK => ?_) AllReady.nil
            go_simp
            refine hK _ _ ?_
            clear hK K
            refine wpAny_done (by kernel_rfl) ?_ _
            (try simp only [Exit.then])
            go_wp2_with fail
            go_meet
            case rel =>
              refine ⟨rfl, Lib.hid ?_, Lib.hid ?_⟩
              · (repeat' (first | (with_reducible exact Below.refl _ _) | (with_reducible assumption) | (with_reducible refine below_drewN _ ?_) | (with_reducible refine Below.drew ?_) | (with_reducible refine Below.setCell ?_ (by first | omega | (simp; done) | (simp; omega)) _) | (with_reducible refine Below.alloc ?_ (by first | omega | (simp; done) | (simp; omega)) _)))
              · (repeat' (first | (with_reducible exact heap_alloc_new _ _) | (with_reducible refine blk_drew ?_) | (with_reducible apply put6_0) | (with_reducible apply put6_1) | (with_reducible apply put6_2) | (with_reducible apply put6_3) | (with_reducible apply put6_4) | (with_reducible apply put6_5)))
        · go_simp
          refine hK _ _ ?_
          clear hK K
          refine wpAny_ready (rs := [2]) (by kernel_rfl) (by simp) ?_
          refine AllReady.cons rfl (fun K hK => ?_) AllReady.nil
          go_simp
          refine (NM.out _ _ (by omega) (by omega) (by omega) (by omega) _).mono ?_
          rintro e w9 ⟨rfl, rfl⟩
          go_simp
          refine hK _ _ ?_
          clear hK K
          refine wpAny_ready (rs := [11]) (by kernel_rfl) (by simp) ?_
          refine AllReady.cons rfl (fun K hK => ?_) AllReady.nil
          go_simp
          refine (NM.out _ _ (by omega) (by omega) (by omega) (by omega) _).mono ?_
          rintro e w9 ⟨rfl, rfl⟩
          go_simp
          refine hK _ _ ?_
          clear hK K
          refine wpAny_take (i := 12) (v := ?_) rfl (by kernel_rfl) (by kernel_rfl) (by kernel_rfl) (fun _ _ _ h => h) (Or.inl ⟨by rfl, ?_⟩) ?_
          case refine_2 =>
            intro w
            go_simp
            (try with_reducible rfl)
          refine wpAny_ready (rs := [16]) (by kernel_rfl) (by simp) ?_
          refine AllReady.cons rfl (fun K hK => ?_) AllReady.nil
          go_simp
          refine (NM.out _ _ (by omega) (by omega) (by omega) (by omega) _).mono ?_
          rintro e w9 ⟨rfl, rfl⟩
          go_simp
          refine hK _ _ ?_
          clear hK K
          refine wpAny_take (i := 17) (v := ?_) rfl (by kernel_rfl) (by kernel_rfl) (by kernel_rfl) (fun _ _ _ h => h) (Or.inl ⟨by rfl, ?_⟩) ?_
          case refine_2 =>
            intro w
            go_simp
            (try with_reducible rfl)
          refine wpAny_ready (rs := [21]) (by kernel_rfl) (by simp) ?_
          refine AllReady.cons rfl (fun K hK => ?_) AllReady.nil
          go_simp
          refine (NM.out _ _ (by omega) (by omega) (by omega) (by omega) _).mono ?_
          rintro e w9 ⟨rfl, rfl⟩
          go_simp
          refine hK _ _ ?_
          clear hK K
          refine wpAny_take (i := 27) (v := ?_) rfl (by kernel_rfl) (by kernel_rfl) (by kernel_rfl) (fun _ _ _ h => h) (Or.inl ⟨by rfl, ?_⟩) ?_
          case refine_2 =>
            intro w
            go_simp
            (try with_reducible rfl)
          refine wpAny_ready (rs := [29]) (by kernel_rfl) (by simp) ?_
          refine AllReady.cons rfl (fun K hK => ?_) AllReady.nil
          go_simp
          refine hK _ _ ?_
          clear hK K
          refine wpAny_done (by kernel_rfl) ?_ _
          (try simp only [Exit.then])
          go_wp2_with fail
          go_meet
          case rel =>
            refine ⟨rfl, Lib.hid ?_, Lib.hid ?_⟩
            · (repeat' (first | (with_reducible exact Below.refl _ _) | (with_reducible assumption) | (with_reducible refine below_drewN _ ?_) | (with_reducible refine Below.drew ?_) | (with_reducible refine Below.setCell ?_ (by first | omega | (simp; done) | (simp; omega)) _) | (with_reducible refine Below.alloc ?_ (by first | omega | (simp; done) | (simp; omega)) _)))
            · (repeat' (first | (with_reducible exact heap_alloc_new _ _) | (with_reducible refine blk_drew ?_) | (with_reducible apply put6_0) | (with_reducible apply put6_1) | (with_reducible apply put6_2) | (with_reducible apply put6_3) | (with_reducible apply put6_4) | (with_reducible apply put6_5)))
      case rest =>
      obtain ⟨hz, XWh, X9h⟩ := hcut
      subst hz
      go_upto_region 5 with (fail)
      refine wp_genc ?_
      intro v1 hv1
      have XB : Below w.heap.size w v1 := by
        have XB0 := HB.out
        rw [hv1]
        (repeat' (first | (with_reducible exact HB.out.trans (XWh.out.mono hsize)) | (with_reducible refine below_drewN _ ?_) | (with_reducible refine Below.drew ?_)))
      have XW : Below wr.heap.size wr v1 := by
        rw [hv1]
        (repeat' (first | (with_reducible exact XWh.out) | (with_reducible refine below_drewN _ ?_) | (with_reducible refine Below.drew ?_)))
      obtain ⟨B9, hB9⟩ : ∃ B, B = wr.heap.size := ⟨_, rfl⟩
      have X9 : v1.heap[B9]? = some (.cells #[.int .u64 (NU I 8), .int .i64 (bt s (I + 8)), .int .u32 (NU (I + 9) 4), .int .u32 (NU (I + 13) 4), .int .u64 (NU (I + 17) 8), .int .i64 (bt s (I + 25))] 64 (0, 0)) := by
        rw [hv1, hB9]
        (repeat' (first | (with_reducible exact X9h.out) | (with_reducible refine blk_drew ?_)))
      rw [← hB9]
      have hb9 : wr.heap.size ≤ B9 := by omega
      clear hv1 hB9
      have HX := Lib.hid X9
      obtain ⟨y, hy⟩ : ∃ y, dec s (30 * k) = y := ⟨_, rfl⟩
      have hz1_ := one_30 y
      have HGD : Hid (good s (30 * k) ↔ y.rt ∧ y.one = sub39 s I (I + 30)) := Lib.hid (by
        rw [HSB.out, ← hy]
        exact ⟨fun g => g.2, fun g => ⟨HLT.out, g.1, g.2⟩⟩)
      have hyok := DOK.out
      rw [hy] at hyok
      have HSN2 : Hid (rl s (k + 1) = rl s k ++ [y]) := Lib.hid (by rw [HSN.out, hy])
      have hd := HD.out
      rw [hy] at hd
      obtain ⟨yt, yk, yf, yi, yn, yc⟩ := y
      injection hd with d1 d2 d3 d4 d5 d6
      rw [← d1, ← d2, ← d3, ← d4, ← d5, ← d6] at HX
      clear d1 d2 d3 d4 d5 d6 hy X9 HSN HD DOK NM w8 w25 w9 w13 n00 n01 n90 n91 n130 n131 n170 n171 b80 b81 b250 b251 a8 a25
      have RA := Lib.hid (fun W => rright39_any _ hyok W)
      have PA := Lib.hid (fun h W => rone_any _ hyok h W)
      unfold Rec.val at RA PA
      simp only at RA PA
      obtain ⟨L, hL⟩ : ∃ L, rl s k = L := ⟨_, rfl⟩
      rw [hL] at HSN2 HO HRL
      have HLL := Lib.hid hL
      clear hL hyok
      have SC : Hid (∀ v, Below v1.heap.size v1 v → v.cell? ⟨B9, 0, none⟩ = some (.int .u64 yt) ∧ v.cell? ⟨B9, 1, none⟩ = some (.int .i64 yk) ∧ v.cell? ⟨B9, 2, none⟩ = some (.int .u32 yf) ∧ v.cell? ⟨B9, 3, none⟩ = some (.int .u32 yi) ∧ v.cell? ⟨B9, 4, none⟩ = some (.int .u64 yn) ∧ v.cell? ⟨B9, 5, none⟩ = some (.int .i64 yc)) := Lib.hid fun v h => by
        have Y := blk_call h HX.out
        obtain ⟨y0, y1, y2, y3, y4, y5, -⟩ := at6 Y
        exact ⟨y0, y1, y2, y3, y4, y5⟩
      obtain ⟨x0, x1, x2, x3, x4, x5⟩ := SC.out _ (Below.refl _ _)
      have HXB := Lib.hid XB
      have HXW := Lib.hid XW
      have hs1 := XB.size
      have hs1w := XW.size
      have hown1 : v1.ownsRow w.heap.size 64 6 v L.length (L.flatMap Rec.cells) :=
        World.ownsRow.kept HO.out (row := some v1.heap.size) ⟨XW.os, XW.tape, XW.output, XW.size, fun k hk _ => XW.block k hk⟩ (Or.inr (fun h => by
          have := World.ownsRow.lt HO.out _ h
          omega))
      have HO1 := Lib.hid hown1
      clear XB XW hown1 HX
      obtain ⟨Z, hZ⟩ : ∃ Z, sub39 s I (I + 30) = Z := ⟨_, rfl⟩
      by_cases hr : (Rec.mk yt yk yf yi yn yc).rt
      · rw [decide_eq_true hr] at RA
        have PB := Lib.hid (PA.out hr)
        have HR := Lib.hid hr
        clear PA hr
        obtain ⟨O, hO⟩ : ∃ O, (Rec.mk yt yk yf yi yn yc).one = O := ⟨_, rfl⟩
        rw [hO] at PB HGD hz1_
        by_cases hq : O = sub39 s I (I + 30)
        · have gq : (!decide (O = sub39 s I (I + 30))) = false := by rw [decide_eq_true hq]; rfl
          have HG : Hid (good s (30 * k)) := Lib.hid (HGD.out.2 ⟨HR.out, hq⟩)
          clear hq hO hZ
          go_region_held3 (fun v => v.cell? ⟨B9, 0, none⟩ = some (.int .u64 yt) ∧ v.cell? ⟨B9, 1, none⟩ = some (.int .i64 yk) ∧ v.cell? ⟨B9, 2, none⟩ = some (.int .u32 yf) ∧ v.cell? ⟨B9, 3, none⟩ = some (.int .u32 yi) ∧ v.cell? ⟨B9, 4, none⟩ = some (.int .u64 yn) ∧ v.cell? ⟨B9, 5, none⟩ = some (.int .i64 yc)) ((first | exact ⟨x0, x1, x2, x3, x4, x5⟩ | exact SC.out _ h4' | exact SC.out _ h3' | exact SC.out _ (by (repeat' (first | (with_reducible exact Below.refl _ _) | (with_reducible exact h3') | (with_reducible refine below_drewN _ ?_) | (with_reducible refine Below.drew ?_)))))) (first | (go_at_call 62; refine (PB.out _).mono ?_; rintro e w4 ⟨rfl, h4⟩; have h4' : Below v1.heap.size v1 w4 := bel_call h4 (by (repeat' (first | (with_reducible exact Below.refl _ _) | (with_reducible exact h3') | (with_reducible refine below_drewN _ ?_) | (with_reducible refine Below.drew ?_)))) (Nat.le_refl _)) | (go_at_call 30; refine (RA.out _).mono ?_; rintro e w3 ⟨rfl, h3⟩; have h3' : Below v1.heap.size v1 w3 := bel_call h3 (by (repeat' (first | (with_reducible exact Below.refl _ _) | (with_reducible refine below_drewN _ ?_) | (with_reducible refine Below.drew ?_)))) (Nat.le_refl _)) | fail)
          go_upto_region 7 with (fail)
          refine wp_genc ?_
          intro v5 hv5
          have X5 : Below v1.heap.size v1 v5 := by
            rw [hv5]
            (repeat' (first | (with_reducible exact h4') | (with_reducible refine below_drewN _ ?_) | (with_reducible refine Below.drew ?_)))
          have hs5 := X5.size
          have ho5 : v5.ownsRow w.heap.size 64 6 v L.length (L.flatMap Rec.cells) :=
            World.ownsRow.kept HO1.out (row := some v5.heap.size) ⟨X5.os, X5.tape, X5.output, X5.size, fun k hk _ => X5.block k hk⟩ (Or.inr (fun h => by
              have := World.ownsRow.lt HO1.out _ h
              omega))
          have HO5 := Lib.hid ho5
          have HB5 : Hid (Below w.heap.size w v5) := Lib.hid (HXB.out.trans (X5.mono hs1))
          clear x0 x1 x2 x3 x4 x5
          obtain ⟨x0, x1, x2, x3, x4, x5⟩ := SC.out _ X5
          clear hv5 X5 ho5
          go_wp2_with (at_builtin; refine wpList_append_own _ rfl _ _ 61 rfl w.heap.size 64 i0 (.agg #[.int .u64 0, .int .i64 0, .int .u32 0, .int .u32 0, .int .u64 0, .int .i64 0]) 6 40 Try.underlying61 hi hz0 hz1 hz2 rfl (by decide) _ _ _ rfl (HO5.out.alloc _) ⟨v5.heap.size, 0, none⟩ 1 1 [.int .u64 yt, .int .i64 yk, .int .u32 yf, .int .u32 yi, .int .u64 yn, .int .i64 yc] rfl rfl (cells_new _ #[.int .u64 yt, .int .i64 yk, .int .u32 yf, .int .u32 yi, .int .u64 yn, .int .i64 yc] _) (fun x hx => by simp at hx; rcases hx with rfl | rfl | rfl | rfl | rfl | rfl <;> rfl) (by unfold maxLen; omega) (by omega) (by simp; omega) ?_; intro v' w6 hown' hgrow3 hnil3; clear hnil3)
          go_roundw
          case rel =>
            refine ⟨v', k + 1, I + 30, rfl, by have := HI.out; omega, rfl, by omega, Lib.hid (fun j hj => ?_), ?_, ?_⟩
            · by_cases h : j = k
              · rw [h]; exact HG.out
              · exact hg.out j (by omega)
            · rw [HSN2.out]; exact RRow.snoc hown'
            · exact (HB5.out.alloc (by omega) _).grown hgrow3 (by simp; omega) (fun g hg => (World.ownsRow.lt HO.out g hg).1)
          case measure => simp [intOf]; omega
        · have gq : (!decide (O = sub39 s I (I + 30))) = true := by rw [decide_eq_false hq]; rfl
          have HG : Hid (¬ good s (30 * k)) := Lib.hid (fun g => hq (HGD.out.1 g).2)
          clear hq hO hZ
          go_region_held3 (fun v => v.cell? ⟨B9, 0, none⟩ = some (.int .u64 yt) ∧ v.cell? ⟨B9, 1, none⟩ = some (.int .i64 yk) ∧ v.cell? ⟨B9, 2, none⟩ = some (.int .u32 yf) ∧ v.cell? ⟨B9, 3, none⟩ = some (.int .u32 yi) ∧ v.cell? ⟨B9, 4, none⟩ = some (.int .u64 yn) ∧ v.cell? ⟨B9, 5, none⟩ = some (.int .i64 yc)) ((first | exact ⟨x0, x1, x2, x3, x4, x5⟩ | exact SC.out _ h4' | exact SC.out _ h3' | exact SC.out _ (by (repeat' (first | (with_reducible exact Below.refl _ _) | (with_reducible exact h3') | (with_reducible refine below_drewN _ ?_) | (with_reducible refine Below.drew ?_)))))) (first | (go_at_call 62; refine (PB.out _).mono ?_; rintro e w4 ⟨rfl, h4⟩; have h4' : Below v1.heap.size v1 w4 := bel_call h4 (by (repeat' (first | (with_reducible exact Below.refl _ _) | (with_reducible exact h3') | (with_reducible refine below_drewN _ ?_) | (with_reducible refine Below.drew ?_)))) (Nat.le_refl _)) | (go_at_call 30; refine (RA.out _).mono ?_; rintro e w3 ⟨rfl, h3⟩; have h3' : Below v1.heap.size v1 w3 := bel_call h3 (by (repeat' (first | (with_reducible exact Below.refl _ _) | (with_reducible refine below_drewN _ ?_) | (with_reducible refine Below.drew ?_)))) (Nat.le_refl _)) | fail)
          go_upto_region 6 with (fail)
          refine wp_genc ?_
          intro v5 hv5
          have X5 : Below v1.heap.size v1 v5 := by
            rw [hv5]
            (repeat' (first | (with_reducible exact h4') | (with_reducible refine below_drewN _ ?_) | (with_reducible refine Below.drew ?_)))
          have hs5 := X5.size
          have ho5 : v5.ownsRow w.heap.size 64 6 v L.length (L.flatMap Rec.cells) :=
            World.ownsRow.kept HO1.out (row := some v5.heap.size) ⟨X5.os, X5.tape, X5.output, X5.size, fun k hk _ => X5.block k hk⟩ (Or.inr (fun h => by
              have := World.ownsRow.lt HO1.out _ h
              omega))
          have HO5 := Lib.hid ho5
          have HB5 : Hid (Below w.heap.size w v5) := Lib.hid (HXB.out.trans (X5.mono hs1))
          clear x0 x1 x2 x3 x4 x5
          obtain ⟨x0, x1, x2, x3, x4, x5⟩ := SC.out _ X5
          clear hv5 X5 ho5
          go_wp2
          go_ret2
          exact ⟨v, k, by rw [HI.out]; rfl, ⟨hg.out, HG.out⟩, by rw [HLL.out]; exact HO5.out, HB5.out⟩
      · rw [decide_eq_false hr] at RA
        have HG : Hid (¬ good s (30 * k)) := Lib.hid (fun g => hr (HGD.out.1 g).1)
        clear PA hr hZ
        refine wp_region_any (by kernel_rfl) ?_
        (try (change wpAny _ _ _ _ _ _ _ (World.drew _)))
        refine wpAny_ready (rs := [0]) (by kernel_rfl) (by simp) ?_
        refine AllReady.cons rfl (fun K hK => ?_) AllReady.nil
        go_simp
        refine hK _ _ ?_
        clear hK K
        refine wpAny_ready (rs := [1]) (by kernel_rfl) (by simp) ?_
        refine AllReady.cons rfl (fun K hK => ?_) AllReady.nil
        go_simp
        refine (RA.out _).mono ?_
        rintro e w3 ⟨rfl, h3⟩
        have h3' : Below v1.heap.size v1 w3 := bel_call h3 (by (repeat' (first | (with_reducible exact Below.refl _ _) | (with_reducible refine below_drewN _ ?_) | (with_reducible refine Below.drew ?_)))) (Nat.le_refl _)
        go_simp
        refine hK _ _ ?_
        clear hK K
        refine wpAny_take (i := 2) (v := ?_) rfl (by kernel_rfl) (by kernel_rfl) (by kernel_rfl) (fun _ _ _ h => h) (Or.inl ⟨by rfl, ?_⟩) ?_
        case refine_2 =>
          intro w
          go_simp
          (try with_reducible rfl)
        refine wpAny_take (i := 3) (v := ?_) rfl (by kernel_rfl) (by kernel_rfl) (by kernel_rfl) (fun _ _ _ h => h) (Or.inl ⟨by rfl, ?_⟩) ?_
        case refine_2 =>
          intro w
          go_simp
          (try with_reducible rfl)
        refine wpAny_take (i := 4) (v := undef) rfl (by kernel_rfl) (by kernel_rfl) (by kernel_rfl) (fun _ _ _ h => h) (Or.inr ⟨by kernel_rfl, rfl⟩) ?_
        (try simp only [Act.put, List.setIfInBounds_toArray, List.set_cons_zero, List.set_cons_succ, List.getElem_toArray, List.getElem_cons_zero, List.getElem_cons_succ])
        refine wpAny_take (i := 5) (v := undef) rfl (by kernel_rfl) (by kernel_rfl) (by kernel_rfl) (fun _ _ _ h => h) (Or.inr ⟨by kernel_rfl, rfl⟩) ?_
        (try simp only [Act.put, List.setIfInBounds_toArray, List.set_cons_zero, List.set_cons_succ, List.getElem_toArray, List.getElem_cons_zero, List.getElem_cons_succ])
        refine wpAny_take (i := 6) (v := undef) rfl (by kernel_rfl) (by kernel_rfl) (by kernel_rfl) (fun _ _ _ h => h) (Or.inr ⟨by kernel_rfl, rfl⟩) ?_
        (try simp only [Act.put, List.setIfInBounds_toArray, List.set_cons_zero, List.set_cons_succ, List.getElem_toArray, List.getElem_cons_zero, List.getElem_cons_succ])
        refine wpAny_take (i := 7) (v := undef) rfl (by kernel_rfl) (by kernel_rfl) (by kernel_rfl) (fun _ _ _ h => h) (Or.inr ⟨by kernel_rfl, rfl⟩) ?_
        (try simp only [Act.put, List.setIfInBounds_toArray, List.set_cons_zero, List.set_cons_succ, List.getElem_toArray, List.getElem_cons_zero, List.getElem_cons_succ])
        refine wpAny_take (i := 8) (v := undef) rfl (by kernel_rfl) (by kernel_rfl) (by kernel_rfl) (fun _ _ _ h => h) (Or.inr ⟨by kernel_rfl, rfl⟩) ?_
        (try simp only [Act.put, List.setIfInBounds_toArray, List.set_cons_zero, List.set_cons_succ, List.getElem_toArray, List.getElem_cons_zero, List.getElem_cons_succ])
        refine wpAny_take (i := 9) (v := undef) rfl (by kernel_rfl) (by kernel_rfl) (by kernel_rfl) (fun _ _ _ h => h) (Or.inr ⟨by kernel_rfl, rfl⟩) ?_
        (try simp only [Act.put, List.setIfInBounds_toArray, List.set_cons_zero, List.set_cons_succ, List.getElem_toArray, List.getElem_cons_zero, List.getElem_cons_succ])
        refine wpAny_take (i := 10) (v := undef) rfl (by kernel_rfl) (by kernel_rfl) (by kernel_rfl) (fun _ _ _ h => h) (Or.inr ⟨by kernel_rfl, rfl⟩) ?_
        (try simp only [Act.put, List.setIfInBounds_toArray, List.set_cons_zero, List.set_cons_succ, List.getElem_toArray, List.getElem_cons_zero, List.getElem_cons_succ])
        refine wpAny_take (i := 11) (v := undef) rfl (by kernel_rfl) (by kernel_rfl) (by kernel_rfl) (fun _ _ _ h => h) (Or.inr ⟨by kernel_rfl, rfl⟩) ?_
        (try simp only [Act.put, List.setIfInBounds_toArray, List.set_cons_zero, List.set_cons_succ, List.getElem_toArray, List.getElem_cons_zero, List.getElem_cons_succ])
        refine wpAny_take (i := 12) (v := ?_) rfl (by kernel_rfl) (by kernel_rfl) (by kernel_rfl) (fun _ _ _ h => h) (Or.inl ⟨by rfl, ?_⟩) ?_
        case refine_2 =>
          intro w
          go_simp
          (try with_reducible rfl)
        refine wpAny_done (by kernel_rfl) ?_ _
        (try simp only [Exit.then])
        (
          go_upto_region 6 with (fail)
          refine wp_genc ?_
          intro v5 hv5
          have X5 : Below v1.heap.size v1 v5 := by
            rw [hv5]
            (repeat' (first | (with_reducible exact h3') | (with_reducible refine below_drewN _ ?_) | (with_reducible refine Below.drew ?_)))
          have hs5 := X5.size
          have ho5 : v5.ownsRow w.heap.size 64 6 v L.length (L.flatMap Rec.cells) :=
            World.ownsRow.kept HO1.out (row := some v5.heap.size) ⟨X5.os, X5.tape, X5.output, X5.size, fun k hk _ => X5.block k hk⟩ (Or.inr (fun h => by
              have := World.ownsRow.lt HO1.out _ h
              omega))
          have HO5 := Lib.hid ho5
          have HB5 : Hid (Below w.heap.size w v5) := Lib.hid (HXB.out.trans (X5.mono hs1))
          clear x0 x1 x2 x3 x4 x5
          obtain ⟨x0, x1, x2, x3, x4, x5⟩ := SC.out _ X5
          clear hv5 X5 ho5
          go_wp2
          go_ret2
          exact ⟨v, k, by rw [HI.out]; rfl, ⟨hg.out, HG.out⟩, by rw [HLL.out]; exact HO5.out, HB5.out⟩
        )
    · have hgeq : ¬ I + 30 ≤ (s.size : Int) := by omega
      have HN := Lib.hid hlt
      clear hI hlt
      have HO := Lib.hid ho; have HB := Lib.hid hbw
      clear ho hbw
      go_wp2
      go_ret2
      exact ⟨v, k, by rw [HI.out]; rfl, ⟨hg.out, fun g => HN.out g.1⟩, HO.out, HB.out⟩
end Go.Proofs.Ytapjebhdgcpdjaa
