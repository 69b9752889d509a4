/-
  Layer 33: a whole datagram, and the header that bytes say, as the program has them. Conditions: numbers that fit; bytes enough.
-/
import Derived.Test.YtiaafpemhalmpaaHd2
import Derived.Test.YtiaafpemhalmpaaVal
namespace Go.Proofs.Ytiaafpemhalmpaa
set_option linter.unusedVariables false
set_option linter.unusedSimpArgs false
open Go.ChangeShapes Go.WideShapes Go.ChangeAt Go.RowKit
attribute [-go_sem] run_index_string binOp_string_eql binOp_string_neq run_string_add_if run_slice_string_from_if run_slice_string_to_if
attribute [local go_sem] index_at add_fits slice_from slice_to eql_str neq_str alloc_drewN setCell_drewN

def pfE (h : Hdr) (b : ByteArray) : Int := if 63 < h.d then 6 else if 65507 < b.size then 4 else 0
def pfS (h : Hdr) (b : ByteArray) : ByteArray := if pfE h b = 0 then pf h b else ⟨#[]⟩
/-- A header's cells at a block's head. -/
def Box7 (B : Nat) (d i t s q x y : Int) (v : World) : Prop :=
  v.cell? ⟨B, 0, none⟩ = some (.int .u8 d) ∧ v.cell? ⟨B, 1, none⟩ = some (.int .u16 i) ∧ v.cell? ⟨B, 2, none⟩ = some (.int .u8 t) ∧ v.cell? ⟨B, 3, none⟩ = some (.int .u32 s) ∧ v.cell? ⟨B, 4, none⟩ = some (.int .u32 q) ∧ v.cell? ⟨B, 5, none⟩ = some (.int .u16 x) ∧ v.cell? ⟨B, 6, none⟩ = some (.int .u16 y)
theorem box7 {v : World} {B : Nat} {d i t s q x y : Int} {T : TypeId} (h : v.heap[B]? = some (.cells #[.int .u8 d, .int .u16 i, .int .u8 t, .int .u32 s, .int .u32 q, .int .u16 x, .int .u16 y] T (0, 0))) : Box7 B d i t s q x y v :=
  ⟨cell_of_row v B 0 _ _ (0, 0) h, cell_of_row v B 1 _ _ (0, 0) h, cell_of_row v B 2 _ _ (0, 0) h, cell_of_row v B 3 _ _ (0, 0) h, cell_of_row v B 4 _ _ (0, 0) h, cell_of_row v B 5 _ _ (0, 0) h, cell_of_row v B 6 _ _ (0, 0) h⟩
theorem at7 {w : World} {b : Nat} {v0 v1 v2 v3 v4 v5 v6 : Value} {t : TypeId} (h : w.heap[b]? = some (.cells #[v0, v1, v2, v3, v4, v5, v6] t (0, 0))) : w.cell? ⟨b, 0, none⟩ = some v0 ∧ w.cell? ⟨b, 1, none⟩ = some v1 ∧ w.cell? ⟨b, 2, none⟩ = some v2 ∧ w.cell? ⟨b, 3, none⟩ = some v3 ∧ w.cell? ⟨b, 4, none⟩ = some v4 ∧ w.cell? ⟨b, 5, none⟩ = some v5 ∧ w.cell? ⟨b, 6, none⟩ = some v6 ∧ w.frozen? ⟨b, 0, none⟩ = false ∧ w.frozen? ⟨b, 1, none⟩ = false ∧ w.frozen? ⟨b, 2, none⟩ = false ∧ w.frozen? ⟨b, 3, none⟩ = false ∧ w.frozen? ⟨b, 4, none⟩ = false ∧ w.frozen? ⟨b, 5, none⟩ = false ∧ w.frozen? ⟨b, 6, none⟩ = false :=
  ⟨cell_of_row w b 0 _ _ (0, 0) h, cell_of_row w b 1 _ _ (0, 0) h, cell_of_row w b 2 _ _ (0, 0) h, cell_of_row w b 3 _ _ (0, 0) h, cell_of_row w b 4 _ _ (0, 0) h, cell_of_row w b 5 _ _ (0, 0) h, cell_of_row w b 6 _ _ (0, 0) h, frozen_of_row w b 0 _ _ h, frozen_of_row w b 1 _ _ h, frozen_of_row w b 2 _ _ h, frozen_of_row w b 3 _ _ h, frozen_of_row w b 4 _ _ h, frozen_of_row w b 5 _ _ h, frozen_of_row w b 6 _ _ h⟩
theorem put7 {v : World} {B : Nat} {o0 o1 o2 o3 o4 o5 o6 : Value} {T : TypeId} (h : v.heap[B]? = some (.cells #[o0, o1, o2, o3, o4, o5, o6] T (0, 0))) (n0 n1 n2 n3 n4 n5 n6 : Value) :
    (((((((v.setCell ⟨B, 0, none⟩ n0).setCell ⟨B, 1, none⟩ n1).setCell ⟨B, 2, none⟩ n2).setCell ⟨B, 3, none⟩ n3).setCell ⟨B, 4, none⟩ n4).setCell ⟨B, 5, none⟩ n5).setCell ⟨B, 6, none⟩ n6).heap[B]? = some (.cells #[n0, n1, n2, n3, n4, n5, n6] T (0, 0)) := by
  have h0 : (v.setCell ⟨B, 0, none⟩ n0).heap[B]? = some (.cells #[n0, o1, o2, o3, o4, o5, o6] T (0, 0)) := blk_set h rfl
  have h1 : ((v.setCell ⟨B, 0, none⟩ n0).setCell ⟨B, 1, none⟩ n1).heap[B]? = some (.cells #[n0, n1, o2, o3, o4, o5, o6] T (0, 0)) := blk_set h0 rfl
  have h2 : (((v.setCell ⟨B, 0, none⟩ n0).setCell ⟨B, 1, none⟩ n1).setCell ⟨B, 2, none⟩ n2).heap[B]? = some (.cells #[n0, n1, n2, o3, o4, o5, o6] T (0, 0)) := blk_set h1 rfl
  have h3 : ((((v.setCell ⟨B, 0, none⟩ n0).setCell ⟨B, 1, none⟩ n1).setCell ⟨B, 2, none⟩ n2).setCell ⟨B, 3, none⟩ n3).heap[B]? = some (.cells #[n0, n1, n2, n3, o4, o5, o6] T (0, 0)) := blk_set h2 rfl
  have h4 : (((((v.setCell ⟨B, 0, none⟩ n0).setCell ⟨B, 1, none⟩ n1).setCell ⟨B, 2, none⟩ n2).setCell ⟨B, 3, none⟩ n3).setCell ⟨B, 4, none⟩ n4).heap[B]? = some (.cells #[n0, n1, n2, n3, n4, o5, o6] T (0, 0)) := blk_set h3 rfl
  have h5 : ((((((v.setCell ⟨B, 0, none⟩ n0).setCell ⟨B, 1, none⟩ n1).setCell ⟨B, 2, none⟩ n2).setCell ⟨B, 3, none⟩ n3).setCell ⟨B, 4, none⟩ n4).setCell ⟨B, 5, none⟩ n5).heap[B]? = some (.cells #[n0, n1, n2, n3, n4, n5, o6] T (0, 0)) := blk_set h4 rfl
  have h6 : (((((((v.setCell ⟨B, 0, none⟩ n0).setCell ⟨B, 1, none⟩ n1).setCell ⟨B, 2, none⟩ n2).setCell ⟨B, 3, none⟩ n3).setCell ⟨B, 4, none⟩ n4).setCell ⟨B, 5, none⟩ n5).setCell ⟨B, 6, none⟩ n6).heap[B]? = some (.cells #[n0, n1, n2, n3, n4, n5, n6] T (0, 0)) := blk_set h5 rfl
  exact h6
theorem put7_bel {u v : World} {b B : Nat} (h : Below b u v) (hB : b ≤ B) (n0 n1 n2 n3 n4 n5 n6 : Value) :
    Below b u (((((((v.setCell ⟨B, 0, none⟩ n0).setCell ⟨B, 1, none⟩ n1).setCell ⟨B, 2, none⟩ n2).setCell ⟨B, 3, none⟩ n3).setCell ⟨B, 4, none⟩ n4).setCell ⟨B, 5, none⟩ n5).setCell ⟨B, 6, none⟩ n6) :=
  (((((((h.setCell (p := ⟨B, 0, none⟩) hB n0).setCell (p := ⟨B, 1, none⟩) hB n1).setCell (p := ⟨B, 2, none⟩) hB n2).setCell (p := ⟨B, 3, none⟩) hB n3).setCell (p := ⟨B, 4, none⟩) hB n4).setCell (p := ⟨B, 5, none⟩) hB n5).setCell (p := ⟨B, 6, none⟩) hB n6)
set_option maxRecDepth 100000 in
set_option maxHeartbeats 1000000 in
theorem hput_ok (d i t s q x y : Int) (k : (⟨d, i, t, s, q, x, y⟩ : Hdr).ok) (b : ByteArray) (hb : b.size ≤ 65507) (w : World) :
    Calls Try.prog 25 #[.agg #[.int .u8 d, .int .u16 i, .int .u8 t, .int .u32 s, .int .u32 q, .int .u16 x, .int .u16 y], .string b] w fun e w' => e = .returned (.tuple #[.string (pf ⟨d, i, t, s, q, x, y⟩ b), .int .i64 0]) ∧ Below w.heap.size w w' := by
  have CH := Lib.hid (fun W => checksum_any d i t s q x y b.size k (by omega) (by omega) W)
  have C := cs_bd ⟨d, i, t, s, q, x, y⟩ b.size
  have ST := Lib.hid (fun W => start_any d i t s q x y b.size (cs ⟨d, i, t, s, q, x, y⟩ b.size) k (by omega) (by omega) C.1 C.2 W)
  have SC := Lib.hid (fun (v : World) (h : Below (w.alloc (.cells #[.int .u8 d, .int .u16 i, .int .u8 t, .int .u32 s, .int .u32 q, .int .u16 x, .int .u16 y] 66)).heap.size (w.alloc (.cells #[.int .u8 d, .int .u16 i, .int .u8 t, .int .u32 s, .int .u32 q, .int .u16 x, .int .u16 y] 66)) v) => (box7 (v := v) (B := w.heap.size) ((h.block _ (by simp)).trans (heap_alloc_new _ _)) : Box7 w.heap.size d i t s q x y v))
  unfold Box7 at SC
  have d1 := k.d.2
  have hd1 : ¬ 63 < d := by simp only at d1; omega
  have hb1 : ¬ (65507 : Int) < b.size := by omega
  have F := Fits.mk (a := hd ⟨d, i, t, s, q, x, y⟩ b.size (cs ⟨d, i, t, s, q, x, y⟩ b.size)) (b := b) (by rw [hd_size]; omega)
  have E : pf ⟨d, i, t, s, q, x, y⟩ b = hd ⟨d, i, t, s, q, x, y⟩ b.size (cs ⟨d, i, t, s, q, x, y⟩ b.size) ++ b := rfl
  rw [E]
  clear E C d1
  generalize hd ⟨d, i, t, s, q, x, y⟩ b.size (cs ⟨d, i, t, s, q, x, y⟩ b.size) = S at *
  generalize cs ⟨d, i, t, s, q, x, y⟩ b.size = c at *
  go_enter Try.func25, Try.ntmps25
  go_wp2
  go_region_held3 (fun v => v.cell? ⟨w.heap.size, 0, none⟩ = some (.int .u8 d) ∧ v.cell? ⟨w.heap.size, 1, none⟩ = some (.int .u16 i) ∧ v.cell? ⟨w.heap.size, 2, none⟩ = some (.int .u8 t) ∧ v.cell? ⟨w.heap.size, 3, none⟩ = some (.int .u32 s) ∧ v.cell? ⟨w.heap.size, 4, none⟩ = some (.int .u32 q) ∧ v.cell? ⟨w.heap.size, 5, none⟩ = some (.int .u16 x) ∧ v.cell? ⟨w.heap.size, 6, none⟩ = some (.int .u16 y))
    ((first | exact SC.out _ h2' | exact SC.out _ h1' | exact SC.out _ (by (repeat' (first | (with_reducible exact Below.refl _ _) | (with_reducible refine below_drewN _ ?_) | (with_reducible refine Below.drew ?_))))))
    (first
      | (go_at_call 49; refine (CH.out _).mono ?_; rintro e w2 ⟨rfl, h1⟩; have h1' : Below (w.alloc (.cells #[.int .u8 d, .int .u16 i, .int .u8 t, .int .u32 s, .int .u32 q, .int .u16 x, .int .u16 y] 66)).heap.size (w.alloc (.cells #[.int .u8 d, .int .u16 i, .int .u8 t, .int .u32 s, .int .u32 q, .int .u16 x, .int .u16 y] 66)) w2 := bel_call h1 (by (repeat' (first | (with_reducible exact Below.refl _ _) | (with_reducible refine below_drewN _ ?_) | (with_reducible refine Below.drew ?_)))) (Nat.le_refl _))
      | (go_at_call 48; refine (ST.out _).mono ?_; rintro e w3 ⟨rfl, h2⟩; have h2' : Below (w.alloc (.cells #[.int .u8 d, .int .u16 i, .int .u8 t, .int .u32 s, .int .u32 q, .int .u16 x, .int .u16 y] 66)).heap.size (w.alloc (.cells #[.int .u8 d, .int .u16 i, .int .u8 t, .int .u32 s, .int .u32 q, .int .u16 x, .int .u16 y] 66)) w3 := bel_call h2 (by (repeat' (first | (with_reducible exact h1') | (with_reducible refine below_drewN _ ?_) | (with_reducible refine Below.drew ?_)))) (Nat.le_refl _))
      | fail)
  go_wp2
  go_ret2
  refine ⟨rfl, ((Below.refl _ w).alloc (Nat.le_refl _) _).trans (Below.mono h2' (by simp <;> omega))⟩
set_option maxRecDepth 100000 in
set_option maxHeartbeats 1000000 in
theorem hread_any (S : ByteArray) (h28 : 28 ≤ S.size) (hs : S.size ≤ 140737488355328) (w : World) :
    Calls Try.prog 53 #[.string S] w fun e w' => e = .returned (.agg #[.int .u8 (rdh S).d, .int .u16 (rdh S).i, .int .u8 (rdh S).t, .int .u32 (rdh S).s, .int .u32 (rdh S).q, .int .u16 (rdh S).x, .int .u16 (rdh S).y]) ∧ Below w.heap.size w w' := by
  have H4 : Hid (∀ W, Calls Try.prog 54 #[.string S, .int .i64 4] W fun e w' => e = .returned (.int .u16 (rdh S).i) ∧ Below W.heap.size W w') := Lib.hid (fun W => (half_at S 4 (by omega) hs W).mono fun e w' ⟨h1, n, h2⟩ => ⟨h1, by rw [h2]; exact below_drewN _ (Below.refl _ _)⟩)
  have H20 : Hid (∀ W, Calls Try.prog 54 #[.string S, .int .i64 20] W fun e w' => e = .returned (.int .u16 (rdh S).x) ∧ Below W.heap.size W w') := Lib.hid (fun W => (half_at S 20 (by omega) hs W).mono fun e w' ⟨h1, n, h2⟩ => ⟨h1, by rw [h2]; exact below_drewN _ (Below.refl _ _)⟩)
  have H22 : Hid (∀ W, Calls Try.prog 54 #[.string S, .int .i64 22] W fun e w' => e = .returned (.int .u16 (rdh S).y) ∧ Below W.heap.size W w') := Lib.hid (fun W => (half_at S 22 (by omega) hs W).mono fun e w' ⟨h1, n, h2⟩ => ⟨h1, by rw [h2]; exact below_drewN _ (Below.refl _ _)⟩)
  have W12 : Hid (∀ W, Calls Try.prog 71 #[.string S, .int .i64 12] W fun e w' => e = .returned (.int .u32 (rdh S).s) ∧ Below W.heap.size W w') := Lib.hid (fun W => (word_at S 12 (by omega) hs W).mono fun e w' ⟨h1, n, h2⟩ => ⟨h1, by rw [h2]; exact below_drewN _ (Below.refl _ _)⟩)
  have W16 : Hid (∀ W, Calls Try.prog 71 #[.string S, .int .i64 16] W fun e w' => e = .returned (.int .u32 (rdh S).q) ∧ Below W.heap.size W w') := Lib.hid (fun W => (word_at S 16 (by omega) hs W).mono fun e w' ⟨h1, n, h2⟩ => ⟨h1, by rw [h2]; exact below_drewN _ (Below.refl _ _)⟩)
  have ed : (rdh S).d = bt S (1 : Nat) / 4 := rfl
  have et : (rdh S).t = bt S (8 : Nat) := rfl
  have a1 : AtS S 1 := ⟨by omega, by omega⟩
  have a8 : AtS S 8 := ⟨by omega, by omega⟩
  have b1 := bt_bd S (1 : Nat)
  have b8 := bt_bd S (8 : Nat)
  rw [ed, et]
  clear ed et
  generalize (rdh S).i = hi at *
  generalize (rdh S).x = hx at *
  generalize (rdh S).y = hy at *
  generalize (rdh S).s = hs_ at *
  generalize (rdh S).q = hq at *
  have c1 : ((1 : Nat) : Int) = 1 := rfl
  have c8 : ((8 : Nat) : Int) = 8 := rfl
  rw [c1] at b1 ⊢
  rw [c8] at b8 ⊢
  clear c1 c8
  go_enter Try.func53, Try.ntmps53
  go_wp2
  obtain ⟨W1, hW1⟩ : ∃ W1, W1 = w.alloc (.cells #[.int .u8 0, .int .u16 0, .int .u8 0, .int .u32 0, .int .u32 0, .int .u16 0, .int .u16 0] 66) := ⟨_, rfl⟩
  rw [← hW1]
  have HBX := Lib.hid (show W1.heap[w.heap.size]? = some (.cells #[.int .u8 0, .int .u16 0, .int .u8 0, .int .u32 0, .int .u32 0, .int .u16 0, .int .u16 0] 66 (0, 0)) by rw [hW1]; exact heap_alloc_new _ _)
  have BW := Lib.hid (show Below w.heap.size w W1 by rw [hW1]; exact (Below.refl _ w).alloc (Nat.le_refl _) _)
  have SZ := Lib.hid (show w.heap.size ≤ W1.heap.size from BW.out.size)
  clear hW1
  refine wp_region_any (by kernel_rfl) ?_
  (try (change wpAny _ _ _ _ _ _ _ (World.drew _)))
  refine wpAny_take (i := 0) (v := ?_) rfl (by kernel_rfl) (by kernel_rfl) (by kernel_rfl) (fun _ _ _ h => h) (Or.inl ⟨by rfl, ?_⟩) ?_
  case refine_2 =>
    intro w
    go_simp
    (try with_reducible rfl)
  refine wpAny_take (i := 3) (v := ?_) rfl (by kernel_rfl) (by kernel_rfl) (by kernel_rfl) (fun _ _ _ h => h) (Or.inl ⟨by rfl, ?_⟩) ?_
  case refine_2 =>
    intro w
    go_simp
    (try with_reducible rfl)
  refine wpAny_take (i := 5) (v := ?_) rfl (by kernel_rfl) (by kernel_rfl) (by kernel_rfl) (fun _ _ _ h => h) (Or.inl ⟨by rfl, ?_⟩) ?_
  case refine_2 =>
    intro w
    go_simp
    (try with_reducible rfl)
  refine wpAny_take (i := 7) (v := ?_) rfl (by kernel_rfl) (by kernel_rfl) (by kernel_rfl) (fun _ _ _ h => h) (Or.inl ⟨by rfl, ?_⟩) ?_
  case refine_2 =>
    intro w
    go_simp
    (try with_reducible rfl)
  refine wpAny_take (i := 9) (v := ?_) rfl (by kernel_rfl) (by kernel_rfl) (by kernel_rfl) (fun _ _ _ h => h) (Or.inl ⟨by rfl, ?_⟩) ?_
  case refine_2 =>
    intro w
    go_simp
    (try with_reducible rfl)
  refine wpAny_take (i := 11) (v := ?_) rfl (by kernel_rfl) (by kernel_rfl) (by kernel_rfl) (fun _ _ _ h => h) (Or.inl ⟨by rfl, ?_⟩) ?_
  case refine_2 =>
    intro w
    go_simp
    (try with_reducible rfl)
  refine wpAny_take (i := 13) (v := ?_) rfl (by kernel_rfl) (by kernel_rfl) (by kernel_rfl) (fun _ _ _ h => h) (Or.inl ⟨by rfl, ?_⟩) ?_
  case refine_2 =>
    intro w
    go_simp
    (try with_reducible rfl)
  refine wpAny_take (i := 1) (v := ?_) rfl (by kernel_rfl) (by kernel_rfl) (by kernel_rfl) (fun _ _ _ h => h) (Or.inl ⟨by rfl, ?_⟩) ?_
  case refine_2 =>
    intro w
    go_simp
    (try with_reducible rfl)
  refine wpAny_take (i := 6) (v := ?_) rfl (by kernel_rfl) (by kernel_rfl) (by kernel_rfl) (fun _ _ _ h => h) (Or.inl ⟨by rfl, ?_⟩) ?_
  case refine_2 =>
    intro w
    go_simp
    (try with_reducible rfl)
  refine wpAny_take (i := 2) (v := ?_) rfl (by kernel_rfl) (by kernel_rfl) (by kernel_rfl) (fun _ _ _ h => h) (Or.inl ⟨by rfl, ?_⟩) ?_
  case refine_2 =>
    intro w
    go_simp
    (try with_reducible rfl)
  refine wpAny_ready (rs := [4]) (by kernel_rfl) (by simp) ?_
  refine AllReady.cons rfl (fun K hK => ?_) AllReady.nil
  go_simp
  refine (H4.out _).mono ?_
  rintro e u1 ⟨rfl, c1⟩
  have Y1 : Below W1.heap.size W1 u1 := bel_call c1 (by (repeat' (first | (with_reducible exact (Below.refl _ _)) | (with_reducible refine below_drewN _ ?_) | (with_reducible refine Below.drew ?_)))) (Nat.le_refl _)
  clear H4 c1
  go_simp
  refine hK _ _ ?_
  clear hK K
  refine wpAny_ready (rs := [8]) (by kernel_rfl) (by simp) ?_
  refine AllReady.cons rfl (fun K hK => ?_) AllReady.nil
  go_simp
  refine (W12.out _).mono ?_
  rintro e u2 ⟨rfl, c2⟩
  have Y2 : Below W1.heap.size W1 u2 := bel_call c2 (by (repeat' (first | (with_reducible exact Y1) | (with_reducible refine below_drewN _ ?_) | (with_reducible refine Below.drew ?_)))) (Nat.le_refl _)
  clear W12 c2
  go_simp
  refine hK _ _ ?_
  clear hK K
  refine wpAny_ready (rs := [10]) (by kernel_rfl) (by simp) ?_
  refine AllReady.cons rfl (fun K hK => ?_) AllReady.nil
  go_simp
  refine (W16.out _).mono ?_
  rintro e u3 ⟨rfl, c3⟩
  have Y3 : Below W1.heap.size W1 u3 := bel_call c3 (by (repeat' (first | (with_reducible exact Y2) | (with_reducible refine below_drewN _ ?_) | (with_reducible refine Below.drew ?_)))) (Nat.le_refl _)
  clear W16 c3
  go_simp
  refine hK _ _ ?_
  clear hK K
  refine wpAny_ready (rs := [12]) (by kernel_rfl) (by simp) ?_
  refine AllReady.cons rfl (fun K hK => ?_) AllReady.nil
  go_simp
  refine (H20.out _).mono ?_
  rintro e u4 ⟨rfl, c4⟩
  have Y4 : Below W1.heap.size W1 u4 := bel_call c4 (by (repeat' (first | (with_reducible exact Y3) | (with_reducible refine below_drewN _ ?_) | (with_reducible refine Below.drew ?_)))) (Nat.le_refl _)
  clear H20 c4
  go_simp
  refine hK _ _ ?_
  clear hK K
  refine wpAny_ready (rs := [14]) (by kernel_rfl) (by simp) ?_
  refine AllReady.cons rfl (fun K hK => ?_) AllReady.nil
  go_simp
  refine (H22.out _).mono ?_
  rintro e u5 ⟨rfl, c5⟩
  have Y5 : Below W1.heap.size W1 u5 := bel_call c5 (by (repeat' (first | (with_reducible exact Y4) | (with_reducible refine below_drewN _ ?_) | (with_reducible refine Below.drew ?_)))) (Nat.le_refl _)
  clear H22 c5
  go_simp
  refine hK _ _ ?_
  clear hK K
  have Z5 : u5.heap[w.heap.size]? = some (.cells #[.int .u8 0, .int .u16 0, .int .u8 0, .int .u32 0, .int .u32 0, .int .u16 0, .int .u16 0] 66 (0, 0)) := (Y5.block _ (lt_blk HBX.out)).trans HBX.out
  obtain ⟨z0, z1, z2, z3, z4, z5, z6, f0, f1, f2, f3, f4, f5, f6⟩ := at7 Z5
  have YH := Lib.hid Y5
  have ZH := Lib.hid Z5
  clear Y1 Y2 Y3 Y4 Y5 Z5
  refine wpAny_ready (rs := [15]) (by kernel_rfl) (by simp) ?_
  refine AllReady.cons rfl (fun K hK => ?_) AllReady.nil
  go_simp
  refine hK _ _ ?_
  clear hK K
  refine wpAny_ready (rs := [16]) (by kernel_rfl) (by simp) ?_
  refine AllReady.cons rfl (fun K hK => ?_) AllReady.nil
  go_simp
  refine hK _ _ ?_
  clear hK K
  refine wpAny_done (by kernel_rfl) ?_ _
  have P := put7 ZH.out (.int .u8 (bt S 1 / 4)) (.int .u16 hi) (.int .u8 (bt S 8)) (.int .u32 hs_) (.int .u32 hq) (.int .u16 hx) (.int .u16 hy)
  have Q := put7_bel (BW.out.trans (YH.out.mono SZ.out)) (Nat.le_refl w.heap.size) (.int .u8 (bt S 1 / 4)) (.int .u16 hi) (.int .u8 (bt S 8)) (.int .u32 hs_) (.int .u32 hq) (.int .u16 hx) (.int .u16 hy)
  clear z0 z1 z2 z3 z4 z5 z6 f0 f1 f2 f3 f4 f5 f6
  generalize (((((((u5.setCell ⟨w.heap.size, 0, none⟩ (.int .u8 (bt S 1 / 4))).setCell ⟨w.heap.size, 1, none⟩ (.int .u16 hi)).setCell ⟨w.heap.size, 2, none⟩ (.int .u8 (bt S 8))).setCell ⟨w.heap.size, 3, none⟩ (.int .u32 hs_)).setCell ⟨w.heap.size, 4, none⟩ (.int .u32 hq)).setCell ⟨w.heap.size, 5, none⟩ (.int .u16 hx)).setCell ⟨w.heap.size, 6, none⟩ (.int .u16 hy)) = vz at *
  obtain ⟨y0, y1, y2, y3, y4, y5, y6, -⟩ := at7 P
  have QH := Lib.hid Q
  clear P Q
  (try simp only [Exit.then])
  go_wp2
  (try simp only [Exit.inBlock, Exit.then])
  refine bodyPost_ret (v := .agg #[.int .u8 (bt S 1 / 4), .int .u16 hi, .int .u8 (bt S 8), .int .u32 hs_, .int .u32 hq, .int .u16 hx, .int .u16 hy]) (by simp [results, Try.results53, go_sem, y0, y1, y2, y3, y4, y5, y6]) rfl ⟨rfl, QH.out⟩
end Go.Proofs.Ytiaafpemhalmpaa
