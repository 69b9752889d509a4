/-
  What sealing and opening return, in package sum and in the document's answer for layer 5, for any strings no longer than a string can be; and that the examples of the chapter hold. What lay below the heap's end stands.
-/
import Derived.Test.YtapjebhdgcpdjaaSum2
import Derived.Maps.AppendAt
namespace Go.Proofs.Ytapjebhdgcpdjaa
set_option linter.unusedVariables false
set_option linter.unusedSimpArgs false
open Go.ChangeShapes Go.WideShapes Go.ChangeAt Go.RowKit
attribute [-go_sem] run_index_string binOp_string_eql binOp_string_neq run_string_add_if run_slice_string_from_if run_slice_string_to_if
attribute [local go_sem] index_bt add_fits slice_from slice_to eql_str neq_str alloc_drewN setCell_drewN conv_one conv_four conv_one_drew

theorem Below.go {w a b : World} (h : Below w.heap.size w a) (k : Below a.heap.size a b) : Below w.heap.size w b := h.trans (k.mono h.size)

theorem one_cell (w : World) (v : Value) (t : TypeId) : (w.alloc (.cells #[v] t)).cell? ⟨w.heap.size, 0, none⟩ = some v := World.cell?_alloc_mark w #[v] t (0, 0) 0
theorem cells_new (w : World) (l : Array Value) (t : TypeId) : ∀ j u, l.toList[j]? = some u → (w.alloc (.cells l t)).cell? ((⟨w.heap.size, 0, none⟩ : Addr).add j) = some u := by
  intro j u h
  have e : ((⟨w.heap.size, 0, none⟩ : Addr).add j) = ⟨w.heap.size, j, none⟩ := by simp [Addr.add]; omega
  rw [e]
  exact (World.cell?_alloc_mark w l t (0, 0) j).trans (by simpa using h)

/-- A number's four bytes, the highest first. -/
def four (n : Int) : ByteArray := chrs [n / 16777216, n / 65536 % 256, n / 256 % 256, n % 256]
theorem four_size (n : Int) : (four n).size = 4 := rfl
theorem four_inj (m n : Int) (m0 : 0 ≤ m) (m1 : m ≤ 4294967295) (n0 : 0 ≤ n) (n1 : n ≤ 4294967295) (h : four m = four n) : m = n := by
  have e : ∀ x : Int, 0 ≤ x → x ≤ 4294967295 → bt (four x) (0 : Nat) = x / 16777216 ∧ bt (four x) (1 : Nat) = x / 65536 % 256 ∧ bt (four x) (2 : Nat) = x / 256 % 256 ∧ bt (four x) (3 : Nat) = x % 256 := by
    intro x x0 x1
    refine ⟨?_, ?_, ?_, ?_⟩ <;> rw [bt_nat] <;> exact byte_of _ (by omega) (by omega)
  obtain ⟨a0, a1, a2, a3⟩ := e m m0 m1
  obtain ⟨b0, b1, b2, b3⟩ := e n n0 n1
  rw [h] at a0 a1 a2 a3
  omega
/-- A string followed by its checksum. -/
def seal4 (s : ByteArray) : ByteArray := s ++ four (mor 1 s)

theorem of_one (b c : Nat) (s : ByteArray) (hs : s.size ≤ 140737488355328) (w : World) (hc : w.cell? ⟨b, 0, none⟩ = some (.string s)) :
    Calls Try.prog 107 #[.slice (some ⟨b, 0, none⟩) 1 c] w fun e w' => e = .returned (.int .u32 (mor 1 s)) ∧ w = w' :=
  of_at b 0 1 c [s] rfl (by simpa using hs) (by unfold maxLen; omega) w (fun i hi => by
    have : i = 0 := by simp at hi; omega
    subst this
    exact hc)
theorem conv_four_two {P : Program} (w : World) (o : Obj) (src dst e t : TypeId) (cap : Nat) (x y z u : Int) (hs : P.underlying src = some (.slice e)) (he : P.underlying e = some (.int .u8)) (hd : P.underlying dst = some .string)
    (x0 : 0 ≤ x) (x1 : x ≤ 255) (y0 : 0 ≤ y) (y1 : y ≤ 255) (z0 : 0 ≤ z) (z1 : z ≤ 255) (u0 : 0 ≤ u) (u1 : u ≤ 255) :
    (convert src dst (.slice (some ⟨w.heap.size + 1, 0, none⟩) 4 cap)).run P ((w.alloc o).alloc (.cells #[.int .u8 x, .int .u8 y, .int .u8 z, .int .u8 u] t)) = .ok (.string (chrs [x, y, z, u])) ((w.alloc o).alloc (.cells #[.int .u8 x, .int .u8 y, .int .u8 z, .int .u8 u] t)) := by
  have := conv_four (w.alloc o) src dst e t cap x y z u hs he hd x0 x1 y0 y1 z0 z1 u0 u1
  have hs : (w.alloc o).heap.size = w.heap.size + 1 := by simp
  rw [hs] at this
  exact this
attribute [local go_sem] conv_four_two

theorem seal_any (s : ByteArray) (hs : s.size ≤ 140737488355328) (w : World) :
    Calls Try.prog 85 #[.string s] w fun e w' => e = .returned (.string (seal4 s)) ∧ Below w.heap.size w w' := by
  have e : s ++ chrs [mor 1 s / 16777216, mor 1 s / 65536 % 256, mor 1 s / 256 % 256, mor 1 s % 256] = seal4 s := rfl
  have ef : ∀ n, Fits s (chrs [n / 16777216, n / 65536 % 256, n / 256 % 256, n % 256]) := fun n => ⟨by show s.size + 4 ≤ _; omega⟩
  obtain ⟨n0, n1⟩ := mor_bd 1 s
  rw [← e]
  have OF := Lib.hid (fun b c w hc => of_one b c s hs w hc)
  clear e
  generalize mor 1 s = n at *
  have ef := ef n
  have x0 : 0 ≤ n / 16777216 := by omega
  have x1 : n / 16777216 ≤ 255 := by omega
  have y0 : 0 ≤ n / 65536 % 256 := by omega
  have y1 : n / 65536 % 256 ≤ 255 := by omega
  have z0 : 0 ≤ n / 256 % 256 := by omega
  have z1 : n / 256 % 256 ≤ 255 := by omega
  have u0 : 0 ≤ n % 256 := by omega
  have u1 : n % 256 ≤ 255 := by omega
  go_enter Try.func85, Try.ntmps85
  go_wp2_with fail
  refine (OF.out _ _ _ (one_cell _ _ _)).mono ?_
  rintro e w' ⟨rfl, rfl⟩
  go_wp2
  go_ret
  exact ⟨rfl, ((Below.refl _ _).alloc (Nat.le_refl _) _).alloc (by simp) _⟩
theorem infoU8 : (Try.prog.info? 5).map (fun i => (i.zero, i.size, i.bytes)) = some (some (.int .u8 0), 1, 1) := by kernel_rfl

theorem refseal_any (s : ByteArray) (hs : s.size ≤ 140737488355328) (w : World) :
    Calls Try.prog 87 #[.string s] w fun e w' => e = .returned (.string (seal4 s)) ∧ Below w.heap.size w w' := by
  obtain ⟨i0, hi, hz0, hz1, hz2⟩ := info_parts infoU8
  have e : s ++ chrs [mor 1 s / 16777216, mor 1 s / 65536 % 256, mor 1 s / 256 % 256, mor 1 s % 256] = seal4 s := rfl
  have ef : ∀ n, Fits s (chrs [n / 16777216, n / 65536 % 256, n / 256 % 256, n % 256]) := fun n => ⟨by show s.size + 4 ≤ _; omega⟩
  obtain ⟨n0, n1⟩ := mor_bd 1 s
  rw [← e]
  have OF := Lib.hid (fun w => refof_any s hs w)
  clear e
  generalize mor 1 s = n at *
  have ef := ef n
  have x0 : 0 ≤ n / 16777216 := by omega
  have x1 : n / 16777216 ≤ 255 := by omega
  have y0 : 0 ≤ n / 65536 % 256 := by omega
  have y1 : n / 65536 % 256 ≤ 255 := by omega
  have z0 : 0 ≤ n / 256 % 256 := by omega
  have z1 : n / 256 % 256 ≤ 255 := by omega
  have u0 : 0 ≤ n % 256 := by omega
  have u1 : n % 256 ≤ 255 := by omega
  have EF := Lib.hid ef; clear ef
  generalize gx : n / 16777216 = x at *
  generalize gy : n / 65536 % 256 = y at *
  generalize gz : n / 256 % 256 = z at *
  generalize gu : n % 256 = u at *
  have CV : Hid (∀ (W : World) (v' : Value), W.ownsRow w.heap.size 5 1 v' 4 ([] ++ [Value.int .u8 x, .int .u8 y, .int .u8 z, .int .u8 u]) → (convert 114 9 v').run Try.prog W = .ok (.string (chrs [x, y, z, u])) W) := Lib.hid (by
    intro W v' ho
    have ho' := ho
    rcases ho.2 with ⟨_, h⟩ | ⟨g, cap, cur, rfl, _⟩
    · omega
    · refine conv_cells W 114 9 5 ⟨g, 0, none⟩ cap [x, y, z, u] Try.underlying114 Try.underlying5 Try.underlying9 (by simp; omega) ?_
      intro j hj
      have hj : j < 4 := by simpa using hj
      have := ho'.cells (g := g) rfl j (.int .u8 ([x, y, z, u][j])) (by
        match j, hj with
        | 0, _ => rfl
        | 1, _ => rfl
        | 2, _ => rfl
        | 3, _ => rfl)
      exact this)
  go_enter Try.func87, Try.ntmps87
  go_wp2_with fail
  refine (OF.out _).mono ?_
  rintro e w' ⟨rfl, rfl⟩
  go_wp2_with (at_builtin; refine wpList_append_own _ rfl _ _ 114 rfl w.heap.size 5 i0 (.int .u8 0) 1 1 Try.underlying114 hi hz0 hz1 hz2 rfl (by decide) _ _ _ rfl (World.ownsRow_nil _ _ _ _) ⟨w.heap.size, 0, none⟩ 4 4 [.int .u8 x, .int .u8 y, .int .u8 z, .int .u8 u] rfl rfl (cells_new _ _ _) (fun x hx => by simp at hx; rcases hx with rfl | rfl | rfl | rfl <;> rfl) (by decide) (by decide) (by simp) ?_; intro v' w3 hown' hgrow3 hnil3; have cv := CV.out w3 v' hown'; have ef := EF.out; clear hnil3)
  go_ret
  exact ⟨rfl, ((Below.refl _ _).alloc (Nat.le_refl _) _).grown hgrow3 (by simp) (fun g hg => by cases hg)⟩
theorem open_any (s : ByteArray) (hs : s.size ≤ 140737488355328) (w : World) :
    Calls Try.prog 88 #[.string s] w fun e w' => e = .returned (.tuple (if 4 ≤ s.size ∧ seal4 (s.extract 0 (s.size - 4)) = s then #[.string (s.extract 0 (s.size - 4)), .bool true] else #[.string ⟨#[]⟩, .bool false])) ∧ Below w.heap.size w w' := by
  by_cases h4 : s.size < 4
  · rw [if_neg (by omega)]
    go_enter Try.func88, Try.ntmps88
    go_wp2
    go_ret2
    exact ⟨rfl, Below.refl _ _⟩
  · have e4 : (s.extract 0 (s.size - 4)).size = s.size - 4 := by rw [size_ext _ _ _ (by omega)]; omega
    have ei : ((s.size : Int) - 4).toNat = s.size - 4 := by omega
    have k1 : InS s ((s.size : Int) - 4) := ⟨by omega⟩
    have E4 := Lib.hid e4; clear e4
    generalize hx : s.extract 0 (s.size - 4) = x at *
    by_cases h : seal4 x = s
    · rw [if_pos ⟨by omega, h⟩]
      go_enter Try.func88, Try.ntmps88
      go_wp2_with fail
      refine (seal_any _ (by rw [E4.out]; omega) _).mono ?_
      rintro e w' ⟨rfl, hb⟩
      go_wp2
      go_ret2
      exact ⟨rfl, hb⟩
    · rw [if_neg (fun g => h g.2)]
      go_enter Try.func88, Try.ntmps88
      go_wp2_with fail
      refine (seal_any _ (by rw [E4.out]; omega) _).mono ?_
      rintro e w' ⟨rfl, hb⟩
      go_wp2
      go_ret2
      exact ⟨rfl, hb⟩
theorem live_a : inet ⟨#[0, 1, 0, 2]⟩ = 65532 := by decide +kernel
theorem live_b : mor 1 ⟨#[97, 98, 99]⟩ = 38600999 := by decide +kernel
theorem live_c : (if 4 ≤ (seal4 ⟨#[97, 98, 99]⟩).size ∧ seal4 ((seal4 ⟨#[97, 98, 99]⟩).extract 0 ((seal4 ⟨#[97, 98, 99]⟩).size - 4)) = seal4 ⟨#[97, 98, 99]⟩ then #[Value.string ((seal4 ⟨#[97, 98, 99]⟩).extract 0 ((seal4 ⟨#[97, 98, 99]⟩).size - 4)), .bool true] else #[.string ⟨#[]⟩, .bool false]) = #[Value.string ⟨#[97, 98, 99]⟩, .bool true] := by
  have e : (seal4 ⟨#[97, 98, 99]⟩).extract 0 ((seal4 ⟨#[97, 98, 99]⟩).size - 4) = ⟨#[97, 98, 99]⟩ := by decide +kernel
  rw [e, if_pos ⟨by decide +kernel, rfl⟩]

end Go.Proofs.Ytapjebhdgcpdjaa
