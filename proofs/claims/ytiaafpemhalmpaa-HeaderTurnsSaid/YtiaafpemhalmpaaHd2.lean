/-
  Layer 33: what stands ahead of a body, its checksum, and a whole datagram, as the program puts them. Conditions: a header whose numbers are right, a body that is not too long.
-/
import Derived.Test.YtiaafpemhalmpaaHd1
namespace Go.Proofs.Ytiaafpemhalmpaa
set_option linter.unusedVariables false
set_option linter.unusedSimpArgs false
open Go.ChangeShapes Go.WideShapes Go.ChangeAt Go.RowKit
attribute [-go_sem] run_index_string binOp_string_eql binOp_string_neq run_string_add_if run_slice_string_from_if run_slice_string_to_if
attribute [local go_sem] index_at add_fits slice_from slice_to eql_str neq_str alloc_drewN setCell_drewN

theorem u16s_new (w : World) (l : List Int) (t : TypeId) : ∀ i, i < l.length → (w.alloc (.cells (l.map (Value.int .u16)).toArray t)).cell? ⟨w.heap.size, 0 + i, none⟩ = some (.int .u16 (l.getD i 0)) := fun i hi => by
  have h := cells_new w (l.map (Value.int .u16)).toArray t i (.int .u16 (l.getD i 0)) (by
    show (l.map (Value.int .u16))[i]? = _
    rw [List.getElem?_map, List.getElem?_eq_getElem hi, List.getD_eq_getElem?_getD, List.getElem?_eq_getElem hi]; rfl)
  have e : ((⟨w.heap.size, 0, none⟩ : Addr).add i) = ⟨w.heap.size, 0 + i, none⟩ := by simp [Addr.add] <;> omega
  rw [e] at h
  exact h
theorem tw_hb (h : Hdr) (k : h.ok) (n c : Int) (n0 : 0 ≤ n) (n1 : n ≤ 65507) :
    tw [17664 + h.d * 4, n + 28, h.i, 0, h.t * 256 + 17, c, h.s / 65536, h.s % 65536, h.q / 65536, h.q % 65536, h.x, h.y, n + 8, 0] = hb h n c := by
  obtain ⟨d, i, t, s, q, x, y⟩ := k
  show [(17664 + h.d * 4) / 256, (17664 + h.d * 4) % 256, (n + 28) / 256, (n + 28) % 256, h.i / 256, h.i % 256, (0 : Int) / 256, (0 : Int) % 256, (h.t * 256 + 17) / 256, (h.t * 256 + 17) % 256, c / 256, c % 256, h.s / 65536 / 256, h.s / 65536 % 256, h.s % 65536 / 256, h.s % 65536 % 256, h.q / 65536 / 256, h.q / 65536 % 256, h.q % 65536 / 256, h.q % 65536 % 256, h.x / 256, h.x % 256, h.y / 256, h.y % 256, (n + 8) / 256, (n + 8) % 256, (0 : Int) / 256, (0 : Int) % 256] = _
  rw [show (17664 + h.d * 4) / 256 = 69 by omega, show (17664 + h.d * 4) % 256 = 4 * h.d by omega, show (h.t * 256 + 17) / 256 = h.t by omega, show (h.t * 256 + 17) % 256 = 17 by omega, show h.s / 65536 / 256 = h.s / 16777216 by omega, show h.q / 65536 / 256 = h.q / 16777216 by omega, show h.s % 65536 / 256 = h.s / 256 % 256 by omega, show h.q % 65536 / 256 = h.q / 256 % 256 by omega, show h.s % 65536 % 256 = h.s % 256 by omega, show h.q % 65536 % 256 = h.q % 256 by omega]
  rfl
theorem halves14 (a0 a1 a2 a3 a4 a5 a6 a7 a8 a9 a10 a11 a12 a13 : Int) (hl : ∀ z ∈ [a0, a1, a2, a3, a4, a5, a6, a7, a8, a9, a10, a11, a12, a13], 0 ≤ z ∧ z ≤ 65535) (W : World) :
    Calls Try.prog 67 #[.slice (some ⟨W.heap.size, 0, none⟩) 14 14] (W.alloc (.cells #[.int .u16 a0, .int .u16 a1, .int .u16 a2, .int .u16 a3, .int .u16 a4, .int .u16 a5, .int .u16 a6, .int .u16 a7, .int .u16 a8, .int .u16 a9, .int .u16 a10, .int .u16 a11, .int .u16 a12, .int .u16 a13] 54)) fun e w' => e = .returned (.string (chrs (tw [a0, a1, a2, a3, a4, a5, a6, a7, a8, a9, a10, a11, a12, a13]))) ∧ Below (W.alloc (.cells #[.int .u16 a0, .int .u16 a1, .int .u16 a2, .int .u16 a3, .int .u16 a4, .int .u16 a5, .int .u16 a6, .int .u16 a7, .int .u16 a8, .int .u16 a9, .int .u16 a10, .int .u16 a11, .int .u16 a12, .int .u16 a13] 54)).heap.size (W.alloc (.cells #[.int .u16 a0, .int .u16 a1, .int .u16 a2, .int .u16 a3, .int .u16 a4, .int .u16 a5, .int .u16 a6, .int .u16 a7, .int .u16 a8, .int .u16 a9, .int .u16 a10, .int .u16 a11, .int .u16 a12, .int .u16 a13] 54)) w' :=
  halves_at W.heap.size 0 14 [a0, a1, a2, a3, a4, a5, a6, a7, a8, a9, a10, a11, a12, a13] hl (show (14 : Nat) ≤ 1000 by omega) (W.alloc (.cells (([a0, a1, a2, a3, a4, a5, a6, a7, a8, a9, a10, a11, a12, a13] : List Int).map (Value.int .u16)).toArray 54)) (by simp) (u16s_new W _ _)
set_option maxRecDepth 100000 in
set_option maxHeartbeats 1000000 in
theorem start_any (d i t s q x y n c : Int) (k : (⟨d, i, t, s, q, x, y⟩ : Hdr).ok) (n0 : 0 ≤ n) (n1 : n ≤ 65507) (c0 : 0 ≤ c) (c1 : c ≤ 65535) (w : World) :
    Calls Try.prog 48 #[.agg #[.int .u8 d, .int .u16 i, .int .u8 t, .int .u32 s, .int .u32 q, .int .u16 x, .int .u16 y], .int .i64 n, .int .u16 c] w fun e w' => e = .returned (.string (hd ⟨d, i, t, s, q, x, y⟩ n c)) ∧ Below w.heap.size w w' := by
  have T := Lib.hid (tw_hb ⟨d, i, t, s, q, x, y⟩ k n c n0 n1)
  obtain ⟨⟨d0, d1⟩, ⟨i0, i1⟩, ⟨t0, t1⟩, ⟨s0, s1⟩, ⟨q0, q1⟩, ⟨x0, x1⟩, ⟨y0, y1⟩⟩ := k
  simp only at d0 d1 i0 i1 t0 t1 s0 s1 q0 q1 x0 x1 y0 y1 T
  have e1 : bits .or .u16 17664 (d * 4) = 17664 + d * 4 := or_byte 69 (d * 4) (by omega) (by omega) (by omega) (by omega)
  have e2 : bits .or .u16 (t * 256) 17 = t * 256 + 17 := or_byte t 17 (by omega) (by omega) (by omega) (by omega)
  have e3 : IntKind.u16.wrap s = s % 65536 := by rw [IntKind.wrap_u16]
  have e4 : IntKind.u16.wrap q = q % 65536 := by rw [IntKind.wrap_u16]
  have e5 : IntKind.u16.wrap (n + 28) = n + 28 := by rw [IntKind.wrap_u16]; omega
  have e6 : IntKind.u16.wrap (n + 8) = n + 8 := by rw [IntKind.wrap_u16]; omega
  have e7 : IntKind.u16.wrap (s / 65536) = s / 65536 := by rw [IntKind.wrap_u16]; omega
  have e8 : IntKind.u16.wrap (q / 65536) = q / 65536 := by rw [IntKind.wrap_u16]; omega
  have HV := Lib.hid (halves14 (17664 + d * 4) (n + 28) i 0 (t * 256 + 17) c (s / 65536) (s % 65536) (q / 65536) (q % 65536) x y (n + 8) 0 (by
    intro z hz
    simp only [List.mem_cons, List.not_mem_nil, or_false] at hz
    rcases hz with rfl | rfl | rfl | rfl | rfl | rfl | rfl | rfl | rfl | rfl | rfl | rfl | rfl | rfl <;> constructor <;> omega))
  rw [T.out] at HV
  have HW := HV.out (w.alloc (.cells #[.int .u8 d, .int .u16 i, .int .u8 t, .int .u32 s, .int .u32 q, .int .u16 x, .int .u16 y] 66))
  rw [show (w.alloc (.cells #[.int .u8 d, .int .u16 i, .int .u8 t, .int .u32 s, .int .u32 q, .int .u16 x, .int .u16 y] 66)).heap.size = w.heap.size + 1 from by simp] at HW
  have HX := Lib.hid HW
  clear HW HV
  go_enter Try.func48, Try.ntmps48
  go_wp2_with fail
  refine HX.out.mono ?_
  rintro e w' ⟨rfl, hb⟩
  go_wp2
  go_ret
  exact ⟨rfl, ((((Below.refl _ w).alloc (Nat.le_refl _) _).alloc (by simp <;> omega) _).trans (hb.mono (by simp <;> omega)))⟩
set_option maxRecDepth 100000 in
theorem checksum_any (d i t s q x y n : Int) (k : (⟨d, i, t, s, q, x, y⟩ : Hdr).ok) (n0 : 0 ≤ n) (n1 : n ≤ 65507) (w : World) :
    Calls Try.prog 49 #[.agg #[.int .u8 d, .int .u16 i, .int .u8 t, .int .u32 s, .int .u32 q, .int .u16 x, .int .u16 y], .int .i64 n] w fun e w' => e = .returned (.int .u16 (cs ⟨d, i, t, s, q, x, y⟩ n)) ∧ Below w.heap.size w w' := by
  have ST := Lib.hid (fun W => start_any d i t s q x y n 0 k n0 n1 (by omega) (by omega) W)
  have IH := Lib.hid (inet_hd k n0 n1)
  have HS := Lib.hid (hd_size ⟨d, i, t, s, q, x, y⟩ n 0)
  generalize hd ⟨d, i, t, s, q, x, y⟩ n 0 = S at *
  have k2 : InS S (20 : Int) := ⟨by have := HS.out; omega⟩
  have k3 : Int.toNat 20 = 20 := rfl
  have IN := Lib.hid (fun W => inet_any (S.extract 0 20) (by rw [size_ext _ _ _ (by have := HS.out; omega)]; omega) W)
  rw [IH.out] at IN
  go_enter Try.func49, Try.ntmps49
  go_wp2_with fail
  refine (ST.out _).mono ?_
  rintro e w1 ⟨rfl, h1⟩
  have B1 := Lib.hid (show Below w.heap.size w w1 from ((Below.refl _ w).alloc (Nat.le_refl _) _).trans (h1.mono (by simp)))
  clear h1
  go_wp2_with fail
  refine (IN.out _).mono ?_
  rintro e w2 ⟨rfl, rfl⟩
  go_wp2
  go_ret
  exact ⟨rfl, B1.out⟩
end Go.Proofs.Ytiaafpemhalmpaa
