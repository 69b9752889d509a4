/-
  Acts of layer 10: what it does with a queue, it does with the document's list; it returns true. No condition but that both stand alike.
-/
import Derived.Test.YtiijlfpkninmgaaTwinRef
namespace Go.Proofs.Ytiijlfpkninmgaa
set_option linter.unusedVariables false
set_option linter.unusedSimpArgs false
open Go.ChangeShapes Go.WideShapes Go.ChangeAt Go.RowKit
attribute [local go_sem] alloc_drewN setCell_drewN

set_option maxRecDepth 100000 in
set_option maxHeartbeats 2000000 in
theorem step_push0_in {W0 w : World} {Bl base B : Nat} {room pd : Int} {v mv : Value} {ms : List (Ent Int)} {κ r x : Int} (hbox : w.heap[Bl]? = some (.cells #[mv] 58 (0, 0))) (tw : TwinBI W0 w base B room pd v ms) (its : Its w W0.heap.size mv ((ms).map kv)) (lowL : W0.heap.size ≤ Bl) (p1 : pd < 18446744073709551615) (k0 : 0 ≤ κ) (k1 : κ ≤ 255) (hq : κ % 8 = 0) (hl : (ms.length : Int) < room) :
    Calls Try.prog 41 #[.pointer (some ⟨B, 0, none⟩), .pointer (some ⟨Bl, 0, none⟩), .int .i64 room, .agg #[.int .u8 κ, .int .u64 r, .int .i64 x]] w fun e w' => e = .returned (.bool true) ∧ ∃ v' mv' ms' pd', TwinBI W0 w' base B room pd' v' ms' ∧ w'.heap[Bl]? = some (.cells #[mv'] 58 (0, 0)) ∧ Its w' W0.heap.size mv' (ms'.map kv) ∧ pd' ≤ pd + 1 := by
  obtain ⟨wa, hwa⟩ : ∃ wa, w.alloc (.cells #[.int .u8 κ, .int .u64 r, .int .i64 x] 77) = wa := ⟨_, rfl⟩
  have hba : Below w.heap.size w wa := by rw [← hwa]; exact (Below.refl _ w).alloc (Nat.le_refl _) _
  have S : StepA W0 wa Bl w.heap.size base B room pd v mv (ms) ((ms).map kv) κ r x := ⟨tw.below hba, (hba.block Bl (Array.getElem?_eq_some_iff.1 hbox).1).trans hbox, its.below hba, lowL, tw.b.size, by rw [← hwa]; exact heap_alloc_new w _⟩
  have hroom := tw.g.room
  obtain ⟨am, cm, hmv, _, _⟩ := S.its.form
  rw [List.length_map] at hmv
  have hl100 : ((ms).map kv).length ≤ 100000 := by rw [List.length_map]; omega
  have hW0 : W0.heap.size ≤ wa.heap.size := S.tw.b.size
  subst hmv
  obtain ⟨⟨b0, b1⟩, a0, a1, a2⟩ := S.facts
  have HS := Lib.hid S
  clear hba S tw its hbox hroom
  have P9 := Lib.hid (push9 _ _ _ r x hl100 wa HS.out.its)
  clear hl100
  go_enter Try.func41, Try.ntmps41
  go_wp2_with (first
    | (go_at_call 31; refine P9.out.mono ?_; rintro e w3 ⟨v3, rfl, h3, b3⟩; obtain ⟨am3, cm3, hv3, -, -⟩ := h3.form; (try rw [List.length_map] at hv3); subst hv3; have SB := Lib.hid (HS.out.on b3); obtain ⟨⟨c0, c1⟩, -, -, -⟩ := SB.out.facts; have SP := Lib.hid (SB.out.put (own_lower9 h3 hW0)); obtain ⟨⟨d0, d1⟩, d2, d3, d4⟩ := SP.out.facts; clear h3 b3)
    | (go_at_call 46; refine (pushXI SP.out.tw hl p1 r x).mono ?_; rintro e w5 ⟨rfl, v5, h5, m5⟩; have S5 := Lib.hid (SP.out.mv h5 m5); clear h5 m5))
  go_ret
  exact ⟨rfl, v5, _, _, _, S5.out.tw, S5.out.box, by rw [insR_kv]; exact S5.out.its, by omega⟩
set_option maxRecDepth 100000 in
set_option maxHeartbeats 2000000 in
theorem step_push0_out {W0 w : World} {Bl base B : Nat} {room pd : Int} {v mv : Value} {ms : List (Ent Int)} {κ r x : Int} (hbox : w.heap[Bl]? = some (.cells #[mv] 58 (0, 0))) (tw : TwinBI W0 w base B room pd v ms) (its : Its w W0.heap.size mv ((ms).map kv)) (lowL : W0.heap.size ≤ Bl) (p1 : pd < 18446744073709551615) (k0 : 0 ≤ κ) (k1 : κ ≤ 255) (hq : κ % 8 = 0) (hl : ¬ (ms.length : Int) < room) :
    Calls Try.prog 41 #[.pointer (some ⟨B, 0, none⟩), .pointer (some ⟨Bl, 0, none⟩), .int .i64 room, .agg #[.int .u8 κ, .int .u64 r, .int .i64 x]] w fun e w' => e = .returned (.bool true) ∧ ∃ v' mv' ms' pd', TwinBI W0 w' base B room pd' v' ms' ∧ w'.heap[Bl]? = some (.cells #[mv'] 58 (0, 0)) ∧ Its w' W0.heap.size mv' (ms'.map kv) ∧ pd' ≤ pd + 1 := by
  obtain ⟨wa, hwa⟩ : ∃ wa, w.alloc (.cells #[.int .u8 κ, .int .u64 r, .int .i64 x] 77) = wa := ⟨_, rfl⟩
  have hba : Below w.heap.size w wa := by rw [← hwa]; exact (Below.refl _ w).alloc (Nat.le_refl _) _
  have S : StepA W0 wa Bl w.heap.size base B room pd v mv (ms) ((ms).map kv) κ r x := ⟨tw.below hba, (hba.block Bl (Array.getElem?_eq_some_iff.1 hbox).1).trans hbox, its.below hba, lowL, tw.b.size, by rw [← hwa]; exact heap_alloc_new w _⟩
  have hroom := tw.g.room
  obtain ⟨am, cm, hmv, _, _⟩ := S.its.form
  rw [List.length_map] at hmv
  have hl100 : ((ms).map kv).length ≤ 100000 := by rw [List.length_map]; omega
  have hW0 : W0.heap.size ≤ wa.heap.size := S.tw.b.size
  subst hmv
  obtain ⟨⟨b0, b1⟩, a0, a1, a2⟩ := S.facts
  have HS := Lib.hid S
  clear hba S tw its hbox hroom
  have PO := Lib.hid (pushX_outI HS.out.tw hl r x)
  clear hl100
  go_enter Try.func41, Try.ntmps41
  go_wp2_with (go_at_call 46; refine PO.out.mono ?_; rintro e w5 ⟨rfl, h5, b5⟩; have S5 := Lib.hid (HS.out.on b5); clear h5 b5)
  go_ret
  exact ⟨rfl, v, _, _, _, S5.out.tw, S5.out.box, S5.out.its, by omega⟩
set_option maxRecDepth 100000 in
set_option maxHeartbeats 2000000 in
theorem step_push1_in {W0 w : World} {Bl base B : Nat} {room pd : Int} {v mv : Value} {ms : List (Ent Int)} {κ r x : Int} (hbox : w.heap[Bl]? = some (.cells #[mv] 58 (0, 0))) (tw : TwinBI W0 w base B room pd v ms) (its : Its w W0.heap.size mv ((ms).map kv)) (lowL : W0.heap.size ≤ Bl) (p1 : pd < 18446744073709551615) (k0 : 0 ≤ κ) (k1 : κ ≤ 255) (hq : κ % 8 = 1) (hl : (ms.length : Int) < room) :
    Calls Try.prog 41 #[.pointer (some ⟨B, 0, none⟩), .pointer (some ⟨Bl, 0, none⟩), .int .i64 room, .agg #[.int .u8 κ, .int .u64 r, .int .i64 x]] w fun e w' => e = .returned (.bool true) ∧ ∃ v' mv' ms' pd', TwinBI W0 w' base B room pd' v' ms' ∧ w'.heap[Bl]? = some (.cells #[mv'] 58 (0, 0)) ∧ Its w' W0.heap.size mv' (ms'.map kv) ∧ pd' ≤ pd + 1 := by
  obtain ⟨wa, hwa⟩ : ∃ wa, w.alloc (.cells #[.int .u8 κ, .int .u64 r, .int .i64 x] 77) = wa := ⟨_, rfl⟩
  have hba : Below w.heap.size w wa := by rw [← hwa]; exact (Below.refl _ w).alloc (Nat.le_refl _) _
  have S : StepA W0 wa Bl w.heap.size base B room pd v mv (ms) ((ms).map kv) κ r x := ⟨tw.below hba, (hba.block Bl (Array.getElem?_eq_some_iff.1 hbox).1).trans hbox, its.below hba, lowL, tw.b.size, by rw [← hwa]; exact heap_alloc_new w _⟩
  have hroom := tw.g.room
  obtain ⟨am, cm, hmv, _, _⟩ := S.its.form
  rw [List.length_map] at hmv
  have hl100 : ((ms).map kv).length ≤ 100000 := by rw [List.length_map]; omega
  have hW0 : W0.heap.size ≤ wa.heap.size := S.tw.b.size
  subst hmv
  obtain ⟨⟨b0, b1⟩, a0, a1, a2⟩ := S.facts
  have HS := Lib.hid S
  clear hba S tw its hbox hroom
  have P9 := Lib.hid (push9 _ _ _ r x hl100 wa HS.out.its)
  clear hl100
  go_enter Try.func41, Try.ntmps41
  go_wp2_with (first
    | (go_at_call 31; refine P9.out.mono ?_; rintro e w3 ⟨v3, rfl, h3, b3⟩; obtain ⟨am3, cm3, hv3, -, -⟩ := h3.form; (try rw [List.length_map] at hv3); subst hv3; have SB := Lib.hid (HS.out.on b3); obtain ⟨⟨c0, c1⟩, -, -, -⟩ := SB.out.facts; have SP := Lib.hid (SB.out.put (own_lower9 h3 hW0)); obtain ⟨⟨d0, d1⟩, d2, d3, d4⟩ := SP.out.facts; clear h3 b3)
    | (go_at_call 46; refine (pushXI SP.out.tw hl p1 r x).mono ?_; rintro e w5 ⟨rfl, v5, h5, m5⟩; have S5 := Lib.hid (SP.out.mv h5 m5); clear h5 m5))
  go_ret
  exact ⟨rfl, v5, _, _, _, S5.out.tw, S5.out.box, by rw [insR_kv]; exact S5.out.its, by omega⟩
set_option maxRecDepth 100000 in
set_option maxHeartbeats 2000000 in
theorem step_push1_out {W0 w : World} {Bl base B : Nat} {room pd : Int} {v mv : Value} {ms : List (Ent Int)} {κ r x : Int} (hbox : w.heap[Bl]? = some (.cells #[mv] 58 (0, 0))) (tw : TwinBI W0 w base B room pd v ms) (its : Its w W0.heap.size mv ((ms).map kv)) (lowL : W0.heap.size ≤ Bl) (p1 : pd < 18446744073709551615) (k0 : 0 ≤ κ) (k1 : κ ≤ 255) (hq : κ % 8 = 1) (hl : ¬ (ms.length : Int) < room) :
    Calls Try.prog 41 #[.pointer (some ⟨B, 0, none⟩), .pointer (some ⟨Bl, 0, none⟩), .int .i64 room, .agg #[.int .u8 κ, .int .u64 r, .int .i64 x]] w fun e w' => e = .returned (.bool true) ∧ ∃ v' mv' ms' pd', TwinBI W0 w' base B room pd' v' ms' ∧ w'.heap[Bl]? = some (.cells #[mv'] 58 (0, 0)) ∧ Its w' W0.heap.size mv' (ms'.map kv) ∧ pd' ≤ pd + 1 := by
  obtain ⟨wa, hwa⟩ : ∃ wa, w.alloc (.cells #[.int .u8 κ, .int .u64 r, .int .i64 x] 77) = wa := ⟨_, rfl⟩
  have hba : Below w.heap.size w wa := by rw [← hwa]; exact (Below.refl _ w).alloc (Nat.le_refl _) _
  have S : StepA W0 wa Bl w.heap.size base B room pd v mv (ms) ((ms).map kv) κ r x := ⟨tw.below hba, (hba.block Bl (Array.getElem?_eq_some_iff.1 hbox).1).trans hbox, its.below hba, lowL, tw.b.size, by rw [← hwa]; exact heap_alloc_new w _⟩
  have hroom := tw.g.room
  obtain ⟨am, cm, hmv, _, _⟩ := S.its.form
  rw [List.length_map] at hmv
  have hl100 : ((ms).map kv).length ≤ 100000 := by rw [List.length_map]; omega
  have hW0 : W0.heap.size ≤ wa.heap.size := S.tw.b.size
  subst hmv
  obtain ⟨⟨b0, b1⟩, a0, a1, a2⟩ := S.facts
  have HS := Lib.hid S
  clear hba S tw its hbox hroom
  have PO := Lib.hid (pushX_outI HS.out.tw hl r x)
  clear hl100
  go_enter Try.func41, Try.ntmps41
  go_wp2_with (go_at_call 46; refine PO.out.mono ?_; rintro e w5 ⟨rfl, h5, b5⟩; have S5 := Lib.hid (HS.out.on b5); clear h5 b5)
  go_ret
  exact ⟨rfl, v, _, _, _, S5.out.tw, S5.out.box, S5.out.its, by omega⟩
set_option maxRecDepth 100000 in
set_option maxHeartbeats 2000000 in
theorem step_push2_in {W0 w : World} {Bl base B : Nat} {room pd : Int} {v mv : Value} {ms : List (Ent Int)} {κ r x : Int} (hbox : w.heap[Bl]? = some (.cells #[mv] 58 (0, 0))) (tw : TwinBI W0 w base B room pd v ms) (its : Its w W0.heap.size mv ((ms).map kv)) (lowL : W0.heap.size ≤ Bl) (p1 : pd < 18446744073709551615) (k0 : 0 ≤ κ) (k1 : κ ≤ 255) (hq : κ % 8 = 2) (hl : (ms.length : Int) < room) :
    Calls Try.prog 41 #[.pointer (some ⟨B, 0, none⟩), .pointer (some ⟨Bl, 0, none⟩), .int .i64 room, .agg #[.int .u8 κ, .int .u64 r, .int .i64 x]] w fun e w' => e = .returned (.bool true) ∧ ∃ v' mv' ms' pd', TwinBI W0 w' base B room pd' v' ms' ∧ w'.heap[Bl]? = some (.cells #[mv'] 58 (0, 0)) ∧ Its w' W0.heap.size mv' (ms'.map kv) ∧ pd' ≤ pd + 1 := by
  obtain ⟨wa, hwa⟩ : ∃ wa, w.alloc (.cells #[.int .u8 κ, .int .u64 r, .int .i64 x] 77) = wa := ⟨_, rfl⟩
  have hba : Below w.heap.size w wa := by rw [← hwa]; exact (Below.refl _ w).alloc (Nat.le_refl _) _
  have S : StepA W0 wa Bl w.heap.size base B room pd v mv (ms) ((ms).map kv) κ r x := ⟨tw.below hba, (hba.block Bl (Array.getElem?_eq_some_iff.1 hbox).1).trans hbox, its.below hba, lowL, tw.b.size, by rw [← hwa]; exact heap_alloc_new w _⟩
  have hroom := tw.g.room
  obtain ⟨am, cm, hmv, _, _⟩ := S.its.form
  rw [List.length_map] at hmv
  have hl100 : ((ms).map kv).length ≤ 100000 := by rw [List.length_map]; omega
  have hW0 : W0.heap.size ≤ wa.heap.size := S.tw.b.size
  subst hmv
  obtain ⟨⟨b0, b1⟩, a0, a1, a2⟩ := S.facts
  have HS := Lib.hid S
  clear hba S tw its hbox hroom
  have P9 := Lib.hid (push9 _ _ _ r x hl100 wa HS.out.its)
  clear hl100
  go_enter Try.func41, Try.ntmps41
  go_wp2_with (first
    | (go_at_call 31; refine P9.out.mono ?_; rintro e w3 ⟨v3, rfl, h3, b3⟩; obtain ⟨am3, cm3, hv3, -, -⟩ := h3.form; (try rw [List.length_map] at hv3); subst hv3; have SB := Lib.hid (HS.out.on b3); obtain ⟨⟨c0, c1⟩, -, -, -⟩ := SB.out.facts; have SP := Lib.hid (SB.out.put (own_lower9 h3 hW0)); obtain ⟨⟨d0, d1⟩, d2, d3, d4⟩ := SP.out.facts; clear h3 b3)
    | (go_at_call 46; refine (pushXI SP.out.tw hl p1 r x).mono ?_; rintro e w5 ⟨rfl, v5, h5, m5⟩; have S5 := Lib.hid (SP.out.mv h5 m5); clear h5 m5))
  go_ret
  exact ⟨rfl, v5, _, _, _, S5.out.tw, S5.out.box, by rw [insR_kv]; exact S5.out.its, by omega⟩
set_option maxRecDepth 100000 in
set_option maxHeartbeats 2000000 in
theorem step_push2_out {W0 w : World} {Bl base B : Nat} {room pd : Int} {v mv : Value} {ms : List (Ent Int)} {κ r x : Int} (hbox : w.heap[Bl]? = some (.cells #[mv] 58 (0, 0))) (tw : TwinBI W0 w base B room pd v ms) (its : Its w W0.heap.size mv ((ms).map kv)) (lowL : W0.heap.size ≤ Bl) (p1 : pd < 18446744073709551615) (k0 : 0 ≤ κ) (k1 : κ ≤ 255) (hq : κ % 8 = 2) (hl : ¬ (ms.length : Int) < room) :
    Calls Try.prog 41 #[.pointer (some ⟨B, 0, none⟩), .pointer (some ⟨Bl, 0, none⟩), .int .i64 room, .agg #[.int .u8 κ, .int .u64 r, .int .i64 x]] w fun e w' => e = .returned (.bool true) ∧ ∃ v' mv' ms' pd', TwinBI W0 w' base B room pd' v' ms' ∧ w'.heap[Bl]? = some (.cells #[mv'] 58 (0, 0)) ∧ Its w' W0.heap.size mv' (ms'.map kv) ∧ pd' ≤ pd + 1 := by
  obtain ⟨wa, hwa⟩ : ∃ wa, w.alloc (.cells #[.int .u8 κ, .int .u64 r, .int .i64 x] 77) = wa := ⟨_, rfl⟩
  have hba : Below w.heap.size w wa := by rw [← hwa]; exact (Below.refl _ w).alloc (Nat.le_refl _) _
  have S : StepA W0 wa Bl w.heap.size base B room pd v mv (ms) ((ms).map kv) κ r x := ⟨tw.below hba, (hba.block Bl (Array.getElem?_eq_some_iff.1 hbox).1).trans hbox, its.below hba, lowL, tw.b.size, by rw [← hwa]; exact heap_alloc_new w _⟩
  have hroom := tw.g.room
  obtain ⟨am, cm, hmv, _, _⟩ := S.its.form
  rw [List.length_map] at hmv
  have hl100 : ((ms).map kv).length ≤ 100000 := by rw [List.length_map]; omega
  have hW0 : W0.heap.size ≤ wa.heap.size := S.tw.b.size
  subst hmv
  obtain ⟨⟨b0, b1⟩, a0, a1, a2⟩ := S.facts
  have HS := Lib.hid S
  clear hba S tw its hbox hroom
  have PO := Lib.hid (pushX_outI HS.out.tw hl r x)
  clear hl100
  go_enter Try.func41, Try.ntmps41
  go_wp2_with (go_at_call 46; refine PO.out.mono ?_; rintro e w5 ⟨rfl, h5, b5⟩; have S5 := Lib.hid (HS.out.on b5); clear h5 b5)
  go_ret
  exact ⟨rfl, v, _, _, _, S5.out.tw, S5.out.box, S5.out.its, by omega⟩
set_option maxRecDepth 100000 in
set_option maxHeartbeats 2000000 in
theorem step_min_no {W0 w : World} {Bl base B : Nat} {room pd : Int} {v mv : Value} {ms : List (Ent Int)} {κ r x : Int} (hbox : w.heap[Bl]? = some (.cells #[mv] 58 (0, 0))) (tw : TwinBI W0 w base B room pd v ([] : List (Ent Int))) (its : Its w W0.heap.size mv ((([] : List (Ent Int))).map kv)) (lowL : W0.heap.size ≤ Bl) (p1 : pd < 18446744073709551615) (k0 : 0 ≤ κ) (k1 : κ ≤ 255) (hq : κ % 8 = 3) :
    Calls Try.prog 41 #[.pointer (some ⟨B, 0, none⟩), .pointer (some ⟨Bl, 0, none⟩), .int .i64 room, .agg #[.int .u8 κ, .int .u64 r, .int .i64 x]] w fun e w' => e = .returned (.bool true) ∧ ∃ v' mv' ms' pd', TwinBI W0 w' base B room pd' v' ms' ∧ w'.heap[Bl]? = some (.cells #[mv'] 58 (0, 0)) ∧ Its w' W0.heap.size mv' (ms'.map kv) ∧ pd' ≤ pd + 1 := by
  obtain ⟨wa, hwa⟩ : ∃ wa, w.alloc (.cells #[.int .u8 κ, .int .u64 r, .int .i64 x] 77) = wa := ⟨_, rfl⟩
  have hba : Below w.heap.size w wa := by rw [← hwa]; exact (Below.refl _ w).alloc (Nat.le_refl _) _
  have S : StepA W0 wa Bl w.heap.size base B room pd v mv (([] : List (Ent Int))) ((([] : List (Ent Int))).map kv) κ r x := ⟨tw.below hba, (hba.block Bl (Array.getElem?_eq_some_iff.1 hbox).1).trans hbox, its.below hba, lowL, tw.b.size, by rw [← hwa]; exact heap_alloc_new w _⟩
  have hroom := tw.g.room
  obtain ⟨am, cm, hmv, _, _⟩ := S.its.form
  rw [List.length_map] at hmv
  have hl100 : ((([] : List (Ent Int))).map kv).length ≤ 100000 := by rw [List.length_map]; omega
  have hW0 : W0.heap.size ≤ wa.heap.size := S.tw.b.size
  subst hmv
  obtain ⟨⟨b0, b1⟩, a0, a1, a2⟩ := S.facts
  have HS := Lib.hid S
  clear hba S tw its hbox hroom
  have PM := Lib.hid (popminW_noI HS.out.tw.g)
  have FR := Lib.hid (first9_nil _ _ wa HS.out.its)
  have RS := Lib.hid (fun W (hW : Below wa.heap.size wa W) => rest9 _ _ _ hl100 W (HS.out.its.below hW))
  clear hl100
  go_enter Try.func41, Try.ntmps41
  go_wp2_with (first
    | (go_at_call 47; refine PM.out.mono ?_; rintro e w2 ⟨rfl, hw⟩; have hw := hw.symm; subst hw)
    | (go_at_call 33; refine FR.out.mono ?_; rintro e w3 ⟨rfl, b3⟩; have B3 := Lib.hid b3; clear b3)
    | (go_at_call 34; refine (RS.out _ B3.out).mono ?_; rintro e w4 ⟨v4, rfl, h4, b4⟩; obtain ⟨am3, cm3, hv3, -, -⟩ := h4.form; (try rw [List.length_map] at hv3); subst hv3; have SB := Lib.hid ((HS.out.on B3.out).on b4); obtain ⟨⟨c0, c1⟩, -, -, -⟩ := SB.out.facts; have SP := Lib.hid (SB.out.put (own_lower9 h4 (Nat.le_trans hW0 B3.out.size))); obtain ⟨⟨d0, d1⟩, d2, d3, d4⟩ := SP.out.facts; clear h4 b4))
  go_ret
  exact ⟨rfl, v, _, [], _, SP.out.tw, SP.out.box, SP.out.its, by omega⟩
set_option maxRecDepth 100000 in
set_option maxHeartbeats 2000000 in
theorem step_min_in {W0 w : World} {Bl base B : Nat} {room pd : Int} {v mv : Value} {e0 : Ent Int} {ms : List (Ent Int)} {κ r x : Int} (hbox : w.heap[Bl]? = some (.cells #[mv] 58 (0, 0))) (tw : TwinBI W0 w base B room pd v (e0 :: ms)) (its : Its w W0.heap.size mv (((e0 :: ms)).map kv)) (lowL : W0.heap.size ≤ Bl) (p1 : pd < 18446744073709551615) (k0 : 0 ≤ κ) (k1 : κ ≤ 255) (hq : κ % 8 = 3) :
    Calls Try.prog 41 #[.pointer (some ⟨B, 0, none⟩), .pointer (some ⟨Bl, 0, none⟩), .int .i64 room, .agg #[.int .u8 κ, .int .u64 r, .int .i64 x]] w fun e w' => e = .returned (.bool true) ∧ ∃ v' mv' ms' pd', TwinBI W0 w' base B room pd' v' ms' ∧ w'.heap[Bl]? = some (.cells #[mv'] 58 (0, 0)) ∧ Its w' W0.heap.size mv' (ms'.map kv) ∧ pd' ≤ pd + 1 := by
  obtain ⟨wa, hwa⟩ : ∃ wa, w.alloc (.cells #[.int .u8 κ, .int .u64 r, .int .i64 x] 77) = wa := ⟨_, rfl⟩
  have hba : Below w.heap.size w wa := by rw [← hwa]; exact (Below.refl _ w).alloc (Nat.le_refl _) _
  have S : StepA W0 wa Bl w.heap.size base B room pd v mv ((e0 :: ms)) (((e0 :: ms)).map kv) κ r x := ⟨tw.below hba, (hba.block Bl (Array.getElem?_eq_some_iff.1 hbox).1).trans hbox, its.below hba, lowL, tw.b.size, by rw [← hwa]; exact heap_alloc_new w _⟩
  have hroom := tw.g.room
  obtain ⟨am, cm, hmv, _, _⟩ := S.its.form
  rw [List.length_map] at hmv
  have hl100 : (((e0 :: ms)).map kv).length ≤ 100000 := by rw [List.length_map]; omega
  have hW0 : W0.heap.size ≤ wa.heap.size := S.tw.b.size
  subst hmv
  obtain ⟨⟨b0, b1⟩, a0, a1, a2⟩ := S.facts
  have HS := Lib.hid S
  clear hba S tw its hbox hroom
  have PM := Lib.hid (popminXI HS.out.tw)
  go_enter Try.func41, Try.ntmps41
  go_wp2_with (first
    | (go_at_call 47; refine PM.out.mono ?_; rintro e w2 ⟨rfl, v2, h2, m2⟩; have S2 := Lib.hid (HS.out.mv h2 m2); have FR := first9 _ _ (e0.rk, e0.x) (ms.map kv) w2 S2.out.its; dsimp only at FR; have FRH := Lib.hid FR; have hsz := m2.size; clear h2 m2 FR)
    | (go_at_call 33; refine FRH.out.mono ?_; rintro e w3 ⟨rfl, b3⟩; have B3 := Lib.hid b3; clear b3; have RS := Lib.hid (rest9 _ _ _ hl100 _ (S2.out.its.below B3.out)))
    | (go_at_call 34; refine RS.out.mono ?_; rintro e w4 ⟨v4, rfl, h4', b4⟩; have h4 : Its w4 _ v4 (ms.map kv) := h4'; clear h4'; obtain ⟨am3, cm3, hv3, -, -⟩ := h4.form; (try rw [List.length_map] at hv3); subst hv3; have SB := Lib.hid ((S2.out.on B3.out).on b4); obtain ⟨⟨c0, c1⟩, -, -, -⟩ := SB.out.facts; have SP := Lib.hid (SB.out.put (own_lower9 h4 (Nat.le_trans hW0 (Nat.le_trans hsz B3.out.size)))); obtain ⟨⟨d0, d1⟩, d2, d3, d4⟩ := SP.out.facts; clear h4 b4))
  go_ret
  exact ⟨rfl, v2, _, ms, _, SP.out.tw, SP.out.box, SP.out.its, by omega⟩
set_option maxRecDepth 100000 in
set_option maxHeartbeats 2000000 in
theorem step_max_no {W0 w : World} {Bl base B : Nat} {room pd : Int} {v mv : Value} {ms : List (Ent Int)} {κ r x : Int} (hbox : w.heap[Bl]? = some (.cells #[mv] 58 (0, 0))) (tw : TwinBI W0 w base B room pd v ([] : List (Ent Int))) (its : Its w W0.heap.size mv ((([] : List (Ent Int))).map kv)) (lowL : W0.heap.size ≤ Bl) (p1 : pd < 18446744073709551615) (k0 : 0 ≤ κ) (k1 : κ ≤ 255) (hq : κ % 8 = 4) :
    Calls Try.prog 41 #[.pointer (some ⟨B, 0, none⟩), .pointer (some ⟨Bl, 0, none⟩), .int .i64 room, .agg #[.int .u8 κ, .int .u64 r, .int .i64 x]] w fun e w' => e = .returned (.bool true) ∧ ∃ v' mv' ms' pd', TwinBI W0 w' base B room pd' v' ms' ∧ w'.heap[Bl]? = some (.cells #[mv'] 58 (0, 0)) ∧ Its w' W0.heap.size mv' (ms'.map kv) ∧ pd' ≤ pd + 1 := by
  obtain ⟨wa, hwa⟩ : ∃ wa, w.alloc (.cells #[.int .u8 κ, .int .u64 r, .int .i64 x] 77) = wa := ⟨_, rfl⟩
  have hba : Below w.heap.size w wa := by rw [← hwa]; exact (Below.refl _ w).alloc (Nat.le_refl _) _
  have S : StepA W0 wa Bl w.heap.size base B room pd v mv (([] : List (Ent Int))) ((([] : List (Ent Int))).map kv) κ r x := ⟨tw.below hba, (hba.block Bl (Array.getElem?_eq_some_iff.1 hbox).1).trans hbox, its.below hba, lowL, tw.b.size, by rw [← hwa]; exact heap_alloc_new w _⟩
  have hroom := tw.g.room
  obtain ⟨am, cm, hmv, _, _⟩ := S.its.form
  rw [List.length_map] at hmv
  have hl100 : ((([] : List (Ent Int))).map kv).length ≤ 100000 := by rw [List.length_map]; omega
  have hW0 : W0.heap.size ≤ wa.heap.size := S.tw.b.size
  subst hmv
  obtain ⟨⟨b0, b1⟩, a0, a1, a2⟩ := S.facts
  have HS := Lib.hid S
  clear hba S tw its hbox hroom
  have PM := Lib.hid (popmaxW_noI HS.out.tw.g)
  have FR := Lib.hid (fun W (hW : Below wa.heap.size wa W) => last9_nil _ _ W (HS.out.its.below hW))
  have RS := Lib.hid (fun W (hW : Below wa.heap.size wa W) => front9 _ _ _ hl100 W (HS.out.its.below hW))
  clear hl100
  go_enter Try.func41, Try.ntmps41
  go_wp2_with (first
    | (go_at_call 48; refine PM.out.mono ?_; rintro e w2 ⟨rfl, b2⟩; have B2 := Lib.hid b2; clear b2)
    | (go_at_call 44; refine (FR.out _ B2.out).mono ?_; rintro e w3 ⟨rfl, b3⟩; have B3 := Lib.hid (B2.out.trans (b3.mono B2.out.size)); clear b3)
    | (go_at_call 77; refine (RS.out _ B3.out).mono ?_; rintro e w4 ⟨v4, rfl, h4, b4⟩; obtain ⟨am3, cm3, hv3, -, -⟩ := h4.form; (try rw [List.length_map] at hv3); subst hv3; have SB := Lib.hid ((HS.out.on B3.out).on b4); obtain ⟨⟨c0, c1⟩, -, -, -⟩ := SB.out.facts; have SP := Lib.hid (SB.out.put (own_lower9 h4 (Nat.le_trans hW0 B3.out.size))); obtain ⟨⟨d0, d1⟩, d2, d3, d4⟩ := SP.out.facts; clear h4 b4))
  go_ret
  exact ⟨rfl, v, _, [], _, SP.out.tw, SP.out.box, SP.out.its, by omega⟩
set_option maxRecDepth 100000 in
set_option maxHeartbeats 2000000 in
theorem step_max_in {W0 w : World} {Bl base B : Nat} {room pd : Int} {v mv : Value} {e0 : Ent Int} {ms : List (Ent Int)} {κ r x : Int} (hbox : w.heap[Bl]? = some (.cells #[mv] 58 (0, 0))) (tw : TwinBI W0 w base B room pd v (ms ++ [e0])) (its : Its w W0.heap.size mv (((ms ++ [e0])).map kv)) (lowL : W0.heap.size ≤ Bl) (p1 : pd < 18446744073709551615) (k0 : 0 ≤ κ) (k1 : κ ≤ 255) (hq : κ % 8 = 4) :
    Calls Try.prog 41 #[.pointer (some ⟨B, 0, none⟩), .pointer (some ⟨Bl, 0, none⟩), .int .i64 room, .agg #[.int .u8 κ, .int .u64 r, .int .i64 x]] w fun e w' => e = .returned (.bool true) ∧ ∃ v' mv' ms' pd', TwinBI W0 w' base B room pd' v' ms' ∧ w'.heap[Bl]? = some (.cells #[mv'] 58 (0, 0)) ∧ Its w' W0.heap.size mv' (ms'.map kv) ∧ pd' ≤ pd + 1 := by
  obtain ⟨wa, hwa⟩ : ∃ wa, w.alloc (.cells #[.int .u8 κ, .int .u64 r, .int .i64 x] 77) = wa := ⟨_, rfl⟩
  have hba : Below w.heap.size w wa := by rw [← hwa]; exact (Below.refl _ w).alloc (Nat.le_refl _) _
  have S : StepA W0 wa Bl w.heap.size base B room pd v mv ((ms ++ [e0])) (((ms ++ [e0])).map kv) κ r x := ⟨tw.below hba, (hba.block Bl (Array.getElem?_eq_some_iff.1 hbox).1).trans hbox, its.below hba, lowL, tw.b.size, by rw [← hwa]; exact heap_alloc_new w _⟩
  have hroom := tw.g.room
  obtain ⟨am, cm, hmv, _, _⟩ := S.its.form
  rw [List.length_map] at hmv
  have hl100 : (((ms ++ [e0])).map kv).length ≤ 100000 := by rw [List.length_map]; omega
  have hW0 : W0.heap.size ≤ wa.heap.size := S.tw.b.size
  subst hmv
  obtain ⟨⟨b0, b1⟩, a0, a1, a2⟩ := S.facts
  have HS := Lib.hid S
  clear hba S tw its hbox hroom
  generalize hnn : (ms ++ [e0]).length = n at *
  have HNN := Lib.hid hnn
  clear hnn
  have PM := Lib.hid (popmaxXI HS.out.tw)
  have hmap : (ms ++ [e0]).map kv = ms.map kv ++ [(e0.rk, e0.x)] := by rw [List.map_append]; rfl
  have hfr : (ms.map kv ++ [(e0.rk, e0.x)]).take ((ms.map kv ++ [(e0.rk, e0.x)]).length - 1) = ms.map kv := by rw [List.length_append, List.length_singleton, Nat.add_sub_cancel, List.take_left' rfl]
  have HM := Lib.hid hmap; have HF := Lib.hid hfr
  rw [hmap] at hl100
  clear hmap hfr
  go_enter Try.func41, Try.ntmps41
  go_wp2_with (first
    | (go_at_call 48; refine PM.out.mono ?_; rintro e w2 ⟨rfl, v2, h2, m2⟩; have S2 := Lib.hid (HS.out.mv h2 m2); have FR := last9 _ _ (ms.map kv) (e0.rk, e0.x) w2 (by rw [← HM.out]; exact S2.out.its); dsimp only at FR; have FRH := Lib.hid FR; have hsz := m2.size; clear h2 m2 FR)
    | (go_at_call 44; refine FRH.out.mono ?_; rintro e w3 ⟨rfl, b3⟩; have B3 := Lib.hid b3; clear b3; have RS := Lib.hid (front9 _ _ _ hl100 _ (show Its _ _ _ (ms.map kv ++ [(e0.rk, e0.x)]) by rw [← HM.out]; exact S2.out.its.below B3.out)))
    | (go_at_call 77; refine RS.out.mono ?_; rintro e w4 ⟨v4, rfl, h4, b4⟩; rw [HF.out] at h4; obtain ⟨am3, cm3, hv3, -, -⟩ := h4.form; (try rw [List.length_map] at hv3); subst hv3; have SB := Lib.hid ((S2.out.on B3.out).on b4); obtain ⟨⟨c0, c1⟩, -, -, -⟩ := SB.out.facts; have SP := Lib.hid (SB.out.put (own_lower9 h4 (Nat.le_trans hW0 (Nat.le_trans hsz B3.out.size)))); obtain ⟨⟨d0, d1⟩, d2, d3, d4⟩ := SP.out.facts; clear h4 b4))
  go_ret
  exact ⟨rfl, v2, _, ms, _, SP.out.tw, SP.out.box, SP.out.its, by omega⟩
set_option maxRecDepth 100000 in
set_option maxHeartbeats 2000000 in
theorem step_sq5_in {W0 w : World} {Bl base B : Nat} {room pd : Int} {v mv : Value} {ms : List (Ent Int)} {κ r x : Int} (hbox : w.heap[Bl]? = some (.cells #[mv] 58 (0, 0))) (tw : TwinBI W0 w base B room pd v ms) (its : Its w W0.heap.size mv ((ms).map kv)) (lowL : W0.heap.size ≤ Bl) (p1 : pd < 18446744073709551615) (k0 : 0 ≤ κ) (k1 : κ ≤ 255) (hq : κ % 8 = 5) (hl : (ms.length : Int) < room) :
    Calls Try.prog 41 #[.pointer (some ⟨B, 0, none⟩), .pointer (some ⟨Bl, 0, none⟩), .int .i64 room, .agg #[.int .u8 κ, .int .u64 r, .int .i64 x]] w fun e w' => e = .returned (.bool true) ∧ ∃ v' mv' ms' pd', TwinBI W0 w' base B room pd' v' ms' ∧ w'.heap[Bl]? = some (.cells #[mv'] 58 (0, 0)) ∧ Its w' W0.heap.size mv' (ms'.map kv) ∧ pd' ≤ pd + 1 := by
  obtain ⟨wa, hwa⟩ : ∃ wa, w.alloc (.cells #[.int .u8 κ, .int .u64 r, .int .i64 x] 77) = wa := ⟨_, rfl⟩
  have hba : Below w.heap.size w wa := by rw [← hwa]; exact (Below.refl _ w).alloc (Nat.le_refl _) _
  have S : StepA W0 wa Bl w.heap.size base B room pd v mv (ms) ((ms).map kv) κ r x := ⟨tw.below hba, (hba.block Bl (Array.getElem?_eq_some_iff.1 hbox).1).trans hbox, its.below hba, lowL, tw.b.size, by rw [← hwa]; exact heap_alloc_new w _⟩
  have hroom := tw.g.room
  obtain ⟨am, cm, hmv, _, _⟩ := S.its.form
  rw [List.length_map] at hmv
  have hl100 : ((ms).map kv).length ≤ 100000 := by rw [List.length_map]; omega
  have hW0 : W0.heap.size ≤ wa.heap.size := S.tw.b.size
  subst hmv
  obtain ⟨⟨b0, b1⟩, a0, a1, a2⟩ := S.facts
  have HS := Lib.hid S
  clear hba S tw its hbox hroom
  have hl9 : (((ms.map kv).length : Nat) : Int) < room := by rw [List.length_map]; exact hl
  have SQ := Lib.hid (squeeze_inI HS.out.tw hl p1 r x)
  have HL := Lib.hid hl9
  clear hl9
  go_enter Try.func41, Try.ntmps41
  go_wp2_with (first
    | (go_at_call 49; refine SQ.out.mono ?_; rintro e w2 ⟨rfl, v2, h2, m2⟩; have S2 := Lib.hid (HS.out.mv h2 m2); have hsz := m2.size; clear h2 m2; obtain ⟨-, e0, e1, e2⟩ := S2.out.facts; have R10 := Lib.hid (sq_in _ _ _ room r x HL.out hl100 _ S2.out.its))
    | (go_at_call 78; refine R10.out.mono ?_; rintro e w4 ⟨v4, rfl, h4, b4⟩; obtain ⟨am3, cm3, hv3, -, -⟩ := h4.form; (try rw [List.length_map] at hv3); subst hv3; have SB := Lib.hid (S2.out.on b4); obtain ⟨⟨c0, c1⟩, -, -, -⟩ := SB.out.facts; have SP := Lib.hid (SB.out.put (own_lower9 h4 (Nat.le_trans hW0 hsz))); obtain ⟨⟨d0, d1⟩, d2, d3, d4⟩ := SP.out.facts; clear h4 b4))
  go_ret
  exact ⟨rfl, v2, _, _, _, SP.out.tw, SP.out.box, by rw [insR_kv]; exact SP.out.its, by omega⟩
set_option maxRecDepth 100000 in
set_option maxHeartbeats 2000000 in
theorem step_sq5_stay {W0 w : World} {Bl base B : Nat} {room pd : Int} {v mv : Value} {e0 : Ent Int} {ms : List (Ent Int)} {κ r x : Int} (hbox : w.heap[Bl]? = some (.cells #[mv] 58 (0, 0))) (tw : TwinBI W0 w base B room pd v (ms ++ [e0])) (its : Its w W0.heap.size mv (((ms ++ [e0])).map kv)) (lowL : W0.heap.size ≤ Bl) (p1 : pd < 18446744073709551615) (k0 : 0 ≤ κ) (k1 : κ ≤ 255) (hq : κ % 8 = 5) (hl : ¬ ((ms ++ [e0]).length : Int) < room) (hr : e0.rk ≤ r) :
    Calls Try.prog 41 #[.pointer (some ⟨B, 0, none⟩), .pointer (some ⟨Bl, 0, none⟩), .int .i64 room, .agg #[.int .u8 κ, .int .u64 r, .int .i64 x]] w fun e w' => e = .returned (.bool true) ∧ ∃ v' mv' ms' pd', TwinBI W0 w' base B room pd' v' ms' ∧ w'.heap[Bl]? = some (.cells #[mv'] 58 (0, 0)) ∧ Its w' W0.heap.size mv' (ms'.map kv) ∧ pd' ≤ pd + 1 := by
  obtain ⟨wa, hwa⟩ : ∃ wa, w.alloc (.cells #[.int .u8 κ, .int .u64 r, .int .i64 x] 77) = wa := ⟨_, rfl⟩
  have hba : Below w.heap.size w wa := by rw [← hwa]; exact (Below.refl _ w).alloc (Nat.le_refl _) _
  have S : StepA W0 wa Bl w.heap.size base B room pd v mv ((ms ++ [e0])) (((ms ++ [e0])).map kv) κ r x := ⟨tw.below hba, (hba.block Bl (Array.getElem?_eq_some_iff.1 hbox).1).trans hbox, its.below hba, lowL, tw.b.size, by rw [← hwa]; exact heap_alloc_new w _⟩
  have hroom := tw.g.room
  obtain ⟨am, cm, hmv, _, _⟩ := S.its.form
  rw [List.length_map] at hmv
  have hl100 : (((ms ++ [e0])).map kv).length ≤ 100000 := by rw [List.length_map]; omega
  have hW0 : W0.heap.size ≤ wa.heap.size := S.tw.b.size
  subst hmv
  obtain ⟨⟨b0, b1⟩, a0, a1, a2⟩ := S.facts
  have HS := Lib.hid S
  clear hba S tw its hbox hroom
  generalize hnn : (ms ++ [e0]).length = n at *
  have HNN := Lib.hid hnn
  have hl9 : ¬ (((ms.map kv ++ [(e0.rk, e0.x)]).length : Nat) : Int) < room := by
    rw [List.length_append, List.length_singleton] at hnn
    rw [List.length_append, List.length_singleton, List.length_map]; omega
  have SQ := Lib.hid (squeeze_stayI HS.out.tw (by rw [HNN.out]; exact hl) r x hr)
  clear hnn
  have hmap : (ms ++ [e0]).map kv = ms.map kv ++ [(e0.rk, e0.x)] := by rw [List.map_append]; rfl
  have HL := Lib.hid hl9; have HM := Lib.hid hmap
  clear hl9 hmap hl
  go_enter Try.func41, Try.ntmps41
  go_wp2_with (first
    | (go_at_call 49; refine SQ.out.mono ?_; rintro e w2 ⟨rfl, h2, b2⟩; have S2 := Lib.hid (HS.out.on b2); clear h2; have B2 := Lib.hid b2; clear b2; obtain ⟨-, f0, f1, f2⟩ := S2.out.facts; have R10 := Lib.hid (sq_stay _ _ (ms.map kv) (e0.rk, e0.x) room r x HL.out hr _ (by rw [← HM.out]; exact S2.out.its)))
    | (go_at_call 78; refine R10.out.mono ?_; rintro e w4 ⟨rfl, b4⟩; have SB := Lib.hid (S2.out.on b4); obtain ⟨⟨c0, c1⟩, -, -, -⟩ := SB.out.facts; have SP := Lib.hid (SB.out.put SB.out.its); clear b4))
  go_ret
  exact ⟨rfl, v, _, ms ++ [e0], _, SP.out.tw, SP.out.box, SP.out.its, by omega⟩
set_option maxRecDepth 100000 in
set_option maxHeartbeats 2000000 in
theorem step_sq5_out {W0 w : World} {Bl base B : Nat} {room pd : Int} {v mv : Value} {e0 : Ent Int} {ms : List (Ent Int)} {κ r x : Int} (hbox : w.heap[Bl]? = some (.cells #[mv] 58 (0, 0))) (tw : TwinBI W0 w base B room pd v (ms ++ [e0])) (its : Its w W0.heap.size mv (((ms ++ [e0])).map kv)) (lowL : W0.heap.size ≤ Bl) (p1 : pd < 18446744073709551615) (k0 : 0 ≤ κ) (k1 : κ ≤ 255) (hq : κ % 8 = 5) (hl : ¬ ((ms ++ [e0]).length : Int) < room) (hr : ¬ e0.rk ≤ r) :
    Calls Try.prog 41 #[.pointer (some ⟨B, 0, none⟩), .pointer (some ⟨Bl, 0, none⟩), .int .i64 room, .agg #[.int .u8 κ, .int .u64 r, .int .i64 x]] w fun e w' => e = .returned (.bool true) ∧ ∃ v' mv' ms' pd', TwinBI W0 w' base B room pd' v' ms' ∧ w'.heap[Bl]? = some (.cells #[mv'] 58 (0, 0)) ∧ Its w' W0.heap.size mv' (ms'.map kv) ∧ pd' ≤ pd + 1 := by
  obtain ⟨wa, hwa⟩ : ∃ wa, w.alloc (.cells #[.int .u8 κ, .int .u64 r, .int .i64 x] 77) = wa := ⟨_, rfl⟩
  have hba : Below w.heap.size w wa := by rw [← hwa]; exact (Below.refl _ w).alloc (Nat.le_refl _) _
  have S : StepA W0 wa Bl w.heap.size base B room pd v mv ((ms ++ [e0])) (((ms ++ [e0])).map kv) κ r x := ⟨tw.below hba, (hba.block Bl (Array.getElem?_eq_some_iff.1 hbox).1).trans hbox, its.below hba, lowL, tw.b.size, by rw [← hwa]; exact heap_alloc_new w _⟩
  have hroom := tw.g.room
  obtain ⟨am, cm, hmv, _, _⟩ := S.its.form
  rw [List.length_map] at hmv
  have hl100 : (((ms ++ [e0])).map kv).length ≤ 100000 := by rw [List.length_map]; omega
  have hW0 : W0.heap.size ≤ wa.heap.size := S.tw.b.size
  subst hmv
  obtain ⟨⟨b0, b1⟩, a0, a1, a2⟩ := S.facts
  have HS := Lib.hid S
  clear hba S tw its hbox hroom
  generalize hnn : (ms ++ [e0]).length = n at *
  have HNN := Lib.hid hnn
  have hl9 : ¬ (((ms.map kv ++ [(e0.rk, e0.x)]).length : Nat) : Int) < room := by
    rw [List.length_append, List.length_singleton] at hnn
    rw [List.length_append, List.length_singleton, List.length_map]; omega
  have SQ := Lib.hid (squeeze_outI HS.out.tw (by rw [HNN.out]; exact hl) p1 r x hr)
  clear hnn
  have hmap : (ms ++ [e0]).map kv = ms.map kv ++ [(e0.rk, e0.x)] := by rw [List.map_append]; rfl
  rw [hmap] at hl100
  have HL := Lib.hid hl9; have HM := Lib.hid hmap
  clear hl9 hmap hl
  go_enter Try.func41, Try.ntmps41
  go_wp2_with (first
    | (go_at_call 49; refine SQ.out.mono ?_; rintro e w2 ⟨rfl, v2, h2, m2⟩; have S2 := Lib.hid (HS.out.mv h2 m2); have hsz := m2.size; clear h2 m2; obtain ⟨-, f0, f1, f2⟩ := S2.out.facts; have R10 := Lib.hid (sq_out _ _ (ms.map kv) (e0.rk, e0.x) room r x HL.out hr hl100 _ (by rw [← HM.out]; exact S2.out.its)))
    | (go_at_call 78; refine R10.out.mono ?_; rintro e w4 ⟨v4, rfl, h4, b4⟩; obtain ⟨am3, cm3, hv3, -, -⟩ := h4.form; (try rw [List.length_map] at hv3); subst hv3; have SB := Lib.hid (S2.out.on b4); obtain ⟨⟨c0, c1⟩, -, -, -⟩ := SB.out.facts; have SP := Lib.hid (SB.out.put (own_lower9 h4 (Nat.le_trans hW0 hsz))); obtain ⟨⟨d0, d1⟩, d2, d3, d4⟩ := SP.out.facts; clear h4 b4))
  go_ret
  exact ⟨rfl, v2, _, _, _, SP.out.tw, SP.out.box, by rw [insR_kv]; exact SP.out.its, by omega⟩
set_option maxRecDepth 100000 in
set_option maxHeartbeats 2000000 in
theorem step_sq6_in {W0 w : World} {Bl base B : Nat} {room pd : Int} {v mv : Value} {ms : List (Ent Int)} {κ r x : Int} (hbox : w.heap[Bl]? = some (.cells #[mv] 58 (0, 0))) (tw : TwinBI W0 w base B room pd v ms) (its : Its w W0.heap.size mv ((ms).map kv)) (lowL : W0.heap.size ≤ Bl) (p1 : pd < 18446744073709551615) (k0 : 0 ≤ κ) (k1 : κ ≤ 255) (hq : κ % 8 = 6) (hl : (ms.length : Int) < room) :
    Calls Try.prog 41 #[.pointer (some ⟨B, 0, none⟩), .pointer (some ⟨Bl, 0, none⟩), .int .i64 room, .agg #[.int .u8 κ, .int .u64 r, .int .i64 x]] w fun e w' => e = .returned (.bool true) ∧ ∃ v' mv' ms' pd', TwinBI W0 w' base B room pd' v' ms' ∧ w'.heap[Bl]? = some (.cells #[mv'] 58 (0, 0)) ∧ Its w' W0.heap.size mv' (ms'.map kv) ∧ pd' ≤ pd + 1 := by
  obtain ⟨wa, hwa⟩ : ∃ wa, w.alloc (.cells #[.int .u8 κ, .int .u64 r, .int .i64 x] 77) = wa := ⟨_, rfl⟩
  have hba : Below w.heap.size w wa := by rw [← hwa]; exact (Below.refl _ w).alloc (Nat.le_refl _) _
  have S : StepA W0 wa Bl w.heap.size base B room pd v mv (ms) ((ms).map kv) κ r x := ⟨tw.below hba, (hba.block Bl (Array.getElem?_eq_some_iff.1 hbox).1).trans hbox, its.below hba, lowL, tw.b.size, by rw [← hwa]; exact heap_alloc_new w _⟩
  have hroom := tw.g.room
  obtain ⟨am, cm, hmv, _, _⟩ := S.its.form
  rw [List.length_map] at hmv
  have hl100 : ((ms).map kv).length ≤ 100000 := by rw [List.length_map]; omega
  have hW0 : W0.heap.size ≤ wa.heap.size := S.tw.b.size
  subst hmv
  obtain ⟨⟨b0, b1⟩, a0, a1, a2⟩ := S.facts
  have HS := Lib.hid S
  clear hba S tw its hbox hroom
  have hl9 : (((ms.map kv).length : Nat) : Int) < room := by rw [List.length_map]; exact hl
  have SQ := Lib.hid (squeeze_inI HS.out.tw hl p1 r x)
  have HL := Lib.hid hl9
  clear hl9
  go_enter Try.func41, Try.ntmps41
  go_wp2_with (first
    | (go_at_call 49; refine SQ.out.mono ?_; rintro e w2 ⟨rfl, v2, h2, m2⟩; have S2 := Lib.hid (HS.out.mv h2 m2); have hsz := m2.size; clear h2 m2; obtain ⟨-, e0, e1, e2⟩ := S2.out.facts; have R10 := Lib.hid (sq_in _ _ _ room r x HL.out hl100 _ S2.out.its))
    | (go_at_call 78; refine R10.out.mono ?_; rintro e w4 ⟨v4, rfl, h4, b4⟩; obtain ⟨am3, cm3, hv3, -, -⟩ := h4.form; (try rw [List.length_map] at hv3); subst hv3; have SB := Lib.hid (S2.out.on b4); obtain ⟨⟨c0, c1⟩, -, -, -⟩ := SB.out.facts; have SP := Lib.hid (SB.out.put (own_lower9 h4 (Nat.le_trans hW0 hsz))); obtain ⟨⟨d0, d1⟩, d2, d3, d4⟩ := SP.out.facts; clear h4 b4))
  go_ret
  exact ⟨rfl, v2, _, _, _, SP.out.tw, SP.out.box, by rw [insR_kv]; exact SP.out.its, by omega⟩
set_option maxRecDepth 100000 in
set_option maxHeartbeats 2000000 in
theorem step_sq6_stay {W0 w : World} {Bl base B : Nat} {room pd : Int} {v mv : Value} {e0 : Ent Int} {ms : List (Ent Int)} {κ r x : Int} (hbox : w.heap[Bl]? = some (.cells #[mv] 58 (0, 0))) (tw : TwinBI W0 w base B room pd v (ms ++ [e0])) (its : Its w W0.heap.size mv (((ms ++ [e0])).map kv)) (lowL : W0.heap.size ≤ Bl) (p1 : pd < 18446744073709551615) (k0 : 0 ≤ κ) (k1 : κ ≤ 255) (hq : κ % 8 = 6) (hl : ¬ ((ms ++ [e0]).length : Int) < room) (hr : e0.rk ≤ r) :
    Calls Try.prog 41 #[.pointer (some ⟨B, 0, none⟩), .pointer (some ⟨Bl, 0, none⟩), .int .i64 room, .agg #[.int .u8 κ, .int .u64 r, .int .i64 x]] w fun e w' => e = .returned (.bool true) ∧ ∃ v' mv' ms' pd', TwinBI W0 w' base B room pd' v' ms' ∧ w'.heap[Bl]? = some (.cells #[mv'] 58 (0, 0)) ∧ Its w' W0.heap.size mv' (ms'.map kv) ∧ pd' ≤ pd + 1 := by
  obtain ⟨wa, hwa⟩ : ∃ wa, w.alloc (.cells #[.int .u8 κ, .int .u64 r, .int .i64 x] 77) = wa := ⟨_, rfl⟩
  have hba : Below w.heap.size w wa := by rw [← hwa]; exact (Below.refl _ w).alloc (Nat.le_refl _) _
  have S : StepA W0 wa Bl w.heap.size base B room pd v mv ((ms ++ [e0])) (((ms ++ [e0])).map kv) κ r x := ⟨tw.below hba, (hba.block Bl (Array.getElem?_eq_some_iff.1 hbox).1).trans hbox, its.below hba, lowL, tw.b.size, by rw [← hwa]; exact heap_alloc_new w _⟩
  have hroom := tw.g.room
  obtain ⟨am, cm, hmv, _, _⟩ := S.its.form
  rw [List.length_map] at hmv
  have hl100 : (((ms ++ [e0])).map kv).length ≤ 100000 := by rw [List.length_map]; omega
  have hW0 : W0.heap.size ≤ wa.heap.size := S.tw.b.size
  subst hmv
  obtain ⟨⟨b0, b1⟩, a0, a1, a2⟩ := S.facts
  have HS := Lib.hid S
  clear hba S tw its hbox hroom
  generalize hnn : (ms ++ [e0]).length = n at *
  have HNN := Lib.hid hnn
  have hl9 : ¬ (((ms.map kv ++ [(e0.rk, e0.x)]).length : Nat) : Int) < room := by
    rw [List.length_append, List.length_singleton] at hnn
    rw [List.length_append, List.length_singleton, List.length_map]; omega
  have SQ := Lib.hid (squeeze_stayI HS.out.tw (by rw [HNN.out]; exact hl) r x hr)
  clear hnn
  have hmap : (ms ++ [e0]).map kv = ms.map kv ++ [(e0.rk, e0.x)] := by rw [List.map_append]; rfl
  have HL := Lib.hid hl9; have HM := Lib.hid hmap
  clear hl9 hmap hl
  go_enter Try.func41, Try.ntmps41
  go_wp2_with (first
    | (go_at_call 49; refine SQ.out.mono ?_; rintro e w2 ⟨rfl, h2, b2⟩; have S2 := Lib.hid (HS.out.on b2); clear h2; have B2 := Lib.hid b2; clear b2; obtain ⟨-, f0, f1, f2⟩ := S2.out.facts; have R10 := Lib.hid (sq_stay _ _ (ms.map kv) (e0.rk, e0.x) room r x HL.out hr _ (by rw [← HM.out]; exact S2.out.its)))
    | (go_at_call 78; refine R10.out.mono ?_; rintro e w4 ⟨rfl, b4⟩; have SB := Lib.hid (S2.out.on b4); obtain ⟨⟨c0, c1⟩, -, -, -⟩ := SB.out.facts; have SP := Lib.hid (SB.out.put SB.out.its); clear b4))
  go_ret
  exact ⟨rfl, v, _, ms ++ [e0], _, SP.out.tw, SP.out.box, SP.out.its, by omega⟩
set_option maxRecDepth 100000 in
set_option maxHeartbeats 2000000 in
theorem step_sq6_out {W0 w : World} {Bl base B : Nat} {room pd : Int} {v mv : Value} {e0 : Ent Int} {ms : List (Ent Int)} {κ r x : Int} (hbox : w.heap[Bl]? = some (.cells #[mv] 58 (0, 0))) (tw : TwinBI W0 w base B room pd v (ms ++ [e0])) (its : Its w W0.heap.size mv (((ms ++ [e0])).map kv)) (lowL : W0.heap.size ≤ Bl) (p1 : pd < 18446744073709551615) (k0 : 0 ≤ κ) (k1 : κ ≤ 255) (hq : κ % 8 = 6) (hl : ¬ ((ms ++ [e0]).length : Int) < room) (hr : ¬ e0.rk ≤ r) :
    Calls Try.prog 41 #[.pointer (some ⟨B, 0, none⟩), .pointer (some ⟨Bl, 0, none⟩), .int .i64 room, .agg #[.int .u8 κ, .int .u64 r, .int .i64 x]] w fun e w' => e = .returned (.bool true) ∧ ∃ v' mv' ms' pd', TwinBI W0 w' base B room pd' v' ms' ∧ w'.heap[Bl]? = some (.cells #[mv'] 58 (0, 0)) ∧ Its w' W0.heap.size mv' (ms'.map kv) ∧ pd' ≤ pd + 1 := by
  obtain ⟨wa, hwa⟩ : ∃ wa, w.alloc (.cells #[.int .u8 κ, .int .u64 r, .int .i64 x] 77) = wa := ⟨_, rfl⟩
  have hba : Below w.heap.size w wa := by rw [← hwa]; exact (Below.refl _ w).alloc (Nat.le_refl _) _
  have S : StepA W0 wa Bl w.heap.size base B room pd v mv ((ms ++ [e0])) (((ms ++ [e0])).map kv) κ r x := ⟨tw.below hba, (hba.block Bl (Array.getElem?_eq_some_iff.1 hbox).1).trans hbox, its.below hba, lowL, tw.b.size, by rw [← hwa]; exact heap_alloc_new w _⟩
  have hroom := tw.g.room
  obtain ⟨am, cm, hmv, _, _⟩ := S.its.form
  rw [List.length_map] at hmv
  have hl100 : (((ms ++ [e0])).map kv).length ≤ 100000 := by rw [List.length_map]; omega
  have hW0 : W0.heap.size ≤ wa.heap.size := S.tw.b.size
  subst hmv
  obtain ⟨⟨b0, b1⟩, a0, a1, a2⟩ := S.facts
  have HS := Lib.hid S
  clear hba S tw its hbox hroom
  generalize hnn : (ms ++ [e0]).length = n at *
  have HNN := Lib.hid hnn
  have hl9 : ¬ (((ms.map kv ++ [(e0.rk, e0.x)]).length : Nat) : Int) < room := by
    rw [List.length_append, List.length_singleton] at hnn
    rw [List.length_append, List.length_singleton, List.length_map]; omega
  have SQ := Lib.hid (squeeze_outI HS.out.tw (by rw [HNN.out]; exact hl) p1 r x hr)
  clear hnn
  have hmap : (ms ++ [e0]).map kv = ms.map kv ++ [(e0.rk, e0.x)] := by rw [List.map_append]; rfl
  rw [hmap] at hl100
  have HL := Lib.hid hl9; have HM := Lib.hid hmap
  clear hl9 hmap hl
  go_enter Try.func41, Try.ntmps41
  go_wp2_with (first
    | (go_at_call 49; refine SQ.out.mono ?_; rintro e w2 ⟨rfl, v2, h2, m2⟩; have S2 := Lib.hid (HS.out.mv h2 m2); have hsz := m2.size; clear h2 m2; obtain ⟨-, f0, f1, f2⟩ := S2.out.facts; have R10 := Lib.hid (sq_out _ _ (ms.map kv) (e0.rk, e0.x) room r x HL.out hr hl100 _ (by rw [← HM.out]; exact S2.out.its)))
    | (go_at_call 78; refine R10.out.mono ?_; rintro e w4 ⟨v4, rfl, h4, b4⟩; obtain ⟨am3, cm3, hv3, -, -⟩ := h4.form; (try rw [List.length_map] at hv3); subst hv3; have SB := Lib.hid (S2.out.on b4); obtain ⟨⟨c0, c1⟩, -, -, -⟩ := SB.out.facts; have SP := Lib.hid (SB.out.put (own_lower9 h4 (Nat.le_trans hW0 hsz))); obtain ⟨⟨d0, d1⟩, d2, d3, d4⟩ := SP.out.facts; clear h4 b4))
  go_ret
  exact ⟨rfl, v2, _, _, _, SP.out.tw, SP.out.box, by rw [insR_kv]; exact SP.out.its, by omega⟩
set_option maxRecDepth 100000 in
set_option maxHeartbeats 2000000 in
theorem step_none {W0 w : World} {Bl base B : Nat} {room pd : Int} {v mv : Value} {ms : List (Ent Int)} {κ r x : Int} (hbox : w.heap[Bl]? = some (.cells #[mv] 58 (0, 0))) (tw : TwinBI W0 w base B room pd v ms) (its : Its w W0.heap.size mv ((ms).map kv)) (lowL : W0.heap.size ≤ Bl) (p1 : pd < 18446744073709551615) (k0 : 0 ≤ κ) (k1 : κ ≤ 255) (hq : κ % 8 = 7) :
    Calls Try.prog 41 #[.pointer (some ⟨B, 0, none⟩), .pointer (some ⟨Bl, 0, none⟩), .int .i64 room, .agg #[.int .u8 κ, .int .u64 r, .int .i64 x]] w fun e w' => e = .returned (.bool true) ∧ ∃ v' mv' ms' pd', TwinBI W0 w' base B room pd' v' ms' ∧ w'.heap[Bl]? = some (.cells #[mv'] 58 (0, 0)) ∧ Its w' W0.heap.size mv' (ms'.map kv) ∧ pd' ≤ pd + 1 := by
  obtain ⟨wa, hwa⟩ : ∃ wa, w.alloc (.cells #[.int .u8 κ, .int .u64 r, .int .i64 x] 77) = wa := ⟨_, rfl⟩
  have hba : Below w.heap.size w wa := by rw [← hwa]; exact (Below.refl _ w).alloc (Nat.le_refl _) _
  have S : StepA W0 wa Bl w.heap.size base B room pd v mv (ms) ((ms).map kv) κ r x := ⟨tw.below hba, (hba.block Bl (Array.getElem?_eq_some_iff.1 hbox).1).trans hbox, its.below hba, lowL, tw.b.size, by rw [← hwa]; exact heap_alloc_new w _⟩
  have hroom := tw.g.room
  obtain ⟨am, cm, hmv, _, _⟩ := S.its.form
  rw [List.length_map] at hmv
  have hl100 : ((ms).map kv).length ≤ 100000 := by rw [List.length_map]; omega
  have hW0 : W0.heap.size ≤ wa.heap.size := S.tw.b.size
  subst hmv
  obtain ⟨⟨b0, b1⟩, a0, a1, a2⟩ := S.facts
  have HS := Lib.hid S
  clear hba S tw its hbox hroom
  clear hl100
  go_enter Try.func41, Try.ntmps41
  go_wp2
  go_ret
  exact ⟨rfl, v, _, ms, pd, HS.out.tw, HS.out.box, HS.out.its, by omega⟩
theorem step10 {W0 w : World} {Bl base B : Nat} {room pd : Int} {v mv : Value} {ms : List (Ent Int)} {κ r x : Int} (hbox : w.heap[Bl]? = some (.cells #[mv] 58 (0, 0))) (tw : TwinBI W0 w base B room pd v ms) (its : Its w W0.heap.size mv (ms.map kv)) (lowL : W0.heap.size ≤ Bl) (p1 : pd < 18446744073709551615) (k0 : 0 ≤ κ) (k1 : κ ≤ 255) :
    Calls Try.prog 41 #[.pointer (some ⟨B, 0, none⟩), .pointer (some ⟨Bl, 0, none⟩), .int .i64 room, .agg #[.int .u8 κ, .int .u64 r, .int .i64 x]] w fun e w' => e = .returned (.bool true) ∧ ∃ v' mv' ms' pd', TwinBI W0 w' base B room pd' v' ms' ∧ w'.heap[Bl]? = some (.cells #[mv'] 58 (0, 0)) ∧ Its w' W0.heap.size mv' (ms'.map kv) ∧ pd' ≤ pd + 1 := by
  have hq : κ % 8 = 0 ∨ κ % 8 = 1 ∨ κ % 8 = 2 ∨ κ % 8 = 3 ∨ κ % 8 = 4 ∨ κ % 8 = 5 ∨ κ % 8 = 6 ∨ κ % 8 = 7 := by omega
  have hroom := tw.g.room
  have hcat : ms = [] ∨ ∃ l e0, ms = l ++ [e0] := by
    rcases List.eq_nil_or_concat ms with h | ⟨l, b, h⟩
    · exact Or.inl h
    · exact Or.inr ⟨l, b, by simpa using h⟩
  rcases hq with hq | hq | hq | hq | hq | hq | hq | hq
  · by_cases hl : (ms.length : Int) < room
    · exact step_push0_in hbox tw its lowL p1 k0 k1 hq hl
    · exact step_push0_out hbox tw its lowL p1 k0 k1 hq hl
  · by_cases hl : (ms.length : Int) < room
    · exact step_push1_in hbox tw its lowL p1 k0 k1 hq hl
    · exact step_push1_out hbox tw its lowL p1 k0 k1 hq hl
  · by_cases hl : (ms.length : Int) < room
    · exact step_push2_in hbox tw its lowL p1 k0 k1 hq hl
    · exact step_push2_out hbox tw its lowL p1 k0 k1 hq hl
  · cases ms with
    | nil => exact step_min_no (ms := []) hbox tw its lowL p1 k0 k1 hq
    | cons e0 ms => exact step_min_in hbox tw its lowL p1 k0 k1 hq
  · rcases hcat with rfl | ⟨l, e0, rfl⟩
    · exact step_max_no (ms := []) hbox tw its lowL p1 k0 k1 hq
    · exact step_max_in hbox tw its lowL p1 k0 k1 hq
  · by_cases hl : (ms.length : Int) < room
    · exact step_sq5_in hbox tw its lowL p1 k0 k1 hq hl
    · rcases hcat with rfl | ⟨l, e0, rfl⟩
      · exact absurd (show ((([] : List (Ent Int)).length : Nat) : Int) < room by have := hroom.1; simp; omega) hl
      · by_cases hr : e0.rk ≤ r
        · exact step_sq5_stay hbox tw its lowL p1 k0 k1 hq hl hr
        · exact step_sq5_out hbox tw its lowL p1 k0 k1 hq hl hr
  · by_cases hl : (ms.length : Int) < room
    · exact step_sq6_in hbox tw its lowL p1 k0 k1 hq hl
    · rcases hcat with rfl | ⟨l, e0, rfl⟩
      · exact absurd (show ((([] : List (Ent Int)).length : Nat) : Int) < room by have := hroom.1; simp; omega) hl
      · by_cases hr : e0.rk ≤ r
        · exact step_sq6_stay hbox tw its lowL p1 k0 k1 hq hl hr
        · exact step_sq6_out hbox tw its lowL p1 k0 k1 hq hl hr
  · exact step_none hbox tw its lowL p1 k0 k1 hq
end Go.Proofs.Ytiijlfpkninmgaa
