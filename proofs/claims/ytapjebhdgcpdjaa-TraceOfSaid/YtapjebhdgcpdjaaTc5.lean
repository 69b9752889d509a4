/-
  What the document's answer for layer 39 puts, and the number of some bytes; package trace, the record of 30 bytes. What lay below the heap's end stands.
-/
import Derived.Test.YtapjebhdgcpdjaaTc4
import Derived.Test.YtapjebhdgcpdjaaWireT1
namespace Go.Proofs.Ytapjebhdgcpdjaa
set_option linter.unusedVariables false
set_option linter.unusedSimpArgs false
open Go.ChangeShapes Go.WideShapes Go.ChangeAt Go.RowKit
attribute [-go_sem] run_index_string binOp_string_eql binOp_string_neq run_string_add_if run_slice_string_from_if run_slice_string_to_if
attribute [local go_sem] index_bt add_fits slice_from slice_to eql_str neq_str alloc_drewN setCell_drewN

set_option maxRecDepth 100000 in
set_option maxHeartbeats 4000000 in
theorem rput39_at (b off c : Nat) (l : List Rec) (hn : l.length ≤ 1000) (hok : ∀ x ∈ l, x.ok) (w : World) (hb : b < w.heap.size) (hc : RCells w b off l) (R : Array Value)
    (h1 : allR39 l → R = #[.string (tput l), .bool true]) (h0 : ¬ allR39 l → R = #[.string ⟨#[]⟩, .bool false]) :
    Calls Try.prog 32 #[.slice (some ⟨b, off, none⟩) l.length c] w fun e w' => e = .returned (.tuple R) ∧ Below w.heap.size w w' := by
  have HC := Lib.hid hc; have HOK := Lib.hid hok
  have R1 := Lib.hid h1; have R0 := Lib.hid h0
  clear hc hok h1 h0
  go_enter Try.func32, Try.ntmps32
  go_wp2
  go_loopw [4, 5] (fun x y wr => ∃ k : Nat, x = .string (tput (l.take k)) ∧ k ≤ l.length ∧ y = .int .i64 k ∧ (∀ x ∈ l.take k, x.rt) ∧ Below w.heap.size w wr) (fun _ y _ => l.length - (intOf y).toNat)
  case atStart => exact ⟨0, rfl, Nat.zero_le _, rfl, fun x h => (by cases h), Below.refl _ _⟩
  case round =>
    obtain ⟨k, rfl, hk, rfl, hall, hbw⟩ := hrel
    have hsize := hbw.size
    by_cases hlt : k < l.length
    · obtain ⟨c0, c1, c2, c3, c4, c5⟩ := HC.out k hlt
      have hx := HOK.out _ (getD_mem_rec hlt)
      have x0 : (0 : Int) ≤ (k : Int) := by omega
      have x1 : (k : Int) < (l.length : Int) := by omega
      have NO := Lib.hid (allR39_no l k hlt)
      have YES := Lib.hid (rt_snoc l k hlt hall)
      have TS := Lib.hid (take_snoc6 l k hlt)
      have hts : (tput (l.take k)).size ≤ 30000 := by rw [tput_size, List.length_take]; omega
      obtain ⟨x, hxe⟩ : ∃ x, l.getD k Rec.nil = x := ⟨_, rfl⟩
      rw [hxe] at hx c0 c1 c2 c3 c4 c5 NO YES TS
      clear hxe hall
      have RA := Lib.hid (fun W => rright39_any x hx W)
      have PA := Lib.hid (fun h W => rone_any x hx h W)
      have hz1_ := one_30 x
      obtain ⟨O, hO⟩ : ∃ O, x.one = O := ⟨_, rfl⟩
      rw [hO] at PA hz1_
      have HOE := Lib.hid hO
      clear hO hx
      obtain ⟨T, hT⟩ : ∃ T, tput (l.take k) = T := ⟨_, rfl⟩
      rw [hT] at hts ⊢
      have HT := Lib.hid hT
      clear hT
      have ft : Fits T O := ⟨by omega⟩
      obtain ⟨xt, xk, xf, xi, xn, xc⟩ := x
      unfold Rec.val at RA PA
      simp only at c0 c1 c2 c3 c4 c5 RA PA
      have CS : Hid (∀ v, Below wr.heap.size wr v → v.cell? ⟨b, off + k * 6, none⟩ = some (.int .u64 xt) ∧ v.cell? ⟨b, off + k * 6 + 1, none⟩ = some (.int .i64 xk) ∧ v.cell? ⟨b, off + k * 6 + 2, none⟩ = some (.int .u32 xf) ∧ v.cell? ⟨b, off + k * 6 + 3, none⟩ = some (.int .u32 xi) ∧ v.cell? ⟨b, off + k * 6 + 4, none⟩ = some (.int .u64 xn) ∧ v.cell? ⟨b, off + k * 6 + 5, none⟩ = some (.int .i64 xc)) := Lib.hid fun v hv => by
        have hv2 := hbw.trans (hv.mono hsize)
        exact ⟨(hv2.cell (p := ⟨b, off + k * 6, none⟩) hb).trans c0, (hv2.cell (p := ⟨b, off + k * 6 + 1, none⟩) hb).trans c1, (hv2.cell (p := ⟨b, off + k * 6 + 2, none⟩) hb).trans c2, (hv2.cell (p := ⟨b, off + k * 6 + 3, none⟩) hb).trans c3, (hv2.cell (p := ⟨b, off + k * 6 + 4, none⟩) hb).trans c4, (hv2.cell (p := ⟨b, off + k * 6 + 5, none⟩) hb).trans c5⟩
      have HB := Lib.hid hbw
      clear c0 c1 c2 c3 c4 c5 hbw
      obtain ⟨c0, c1, c2, c3, c4, c5⟩ := CS.out _ (Below.refl _ _)
      by_cases hr : (Rec.mk xt xk xf xi xn xc).rt
      · rw [decide_eq_true hr] at RA
        have PB := Lib.hid (PA.out hr)
        have HR := Lib.hid hr
        clear PA NO hr
        go_wp2_with fail
        refine (RA.out _).mono ?_
        rintro e w1 ⟨rfl, h1⟩
        have HB1 := Lib.hid (HB.out.trans (h1.mono hsize))
        have hs1 := h1.size
        clear c0 c1 c2 c3 c4 c5
        obtain ⟨c0, c1, c2, c3, c4, c5⟩ := CS.out _ h1
        go_wp2_with fail
        refine (PB.out _).mono ?_
        rintro e w2 ⟨rfl, h2⟩
        have HB2 := Lib.hid (HB1.out.trans (h2.mono (by omega)))
        clear c0 c1 c2 c3 c4 c5 h1 h2
        go_wp2
        go_roundw
        case rel =>
          refine ⟨k + 1, ?_, by omega, by go_num, YES.out HR.out, HB2.out⟩
          rw [TS.out, tput_snoc, HOE.out, HT.out]
        case measure => simp [intOf] <;> omega
      · rw [decide_eq_false hr] at RA
        have HNO := Lib.hid (NO.out hr)
        clear PA NO hr YES
        go_wp2_with fail
        refine (RA.out _).mono ?_
        rintro e w1 ⟨rfl, h1⟩
        go_wp2
        go_ret2
        exact ⟨by rw [R0.out HNO.out]; rfl, HB.out.trans (h1.mono hsize)⟩
    · have ek : k = l.length := by omega
      subst ek
      have et : l.take l.length = l := List.take_of_length_le (by simp)
      rw [et] at hall ⊢
      have HA := Lib.hid hall
      clear hall et
      go_wp2
      go_ret2
      exact ⟨by rw [R1.out HA.out]; rfl, hbw⟩
theorem rput39_none (a : Option Addr) (c : Nat) (w : World) :
    Calls Try.prog 32 #[.slice a 0 c] w fun e w' => e = .returned (.tuple #[.string ⟨#[]⟩, .bool true]) ∧ Below w.heap.size w w' := by
  go_enter Try.func32, Try.ntmps32
  go_wp2
  refine wp_loop_rounds 1 ?_
  rw [rounds_succ]
  go_wp2
  go_ret2
  exact ⟨rfl, Below.refl _ _⟩
theorem rput39 (l : List Rec) (hn : l.length ≤ 1000) (hok : ∀ x ∈ l, x.ok) {w : World} {v : Value} (h : SRc w v l) (R : Array Value)
    (h1 : allR39 l → R = #[.string (tput l), .bool true]) (h0 : ¬ allR39 l → R = #[.string ⟨#[]⟩, .bool false]) :
    Calls Try.prog 32 #[v] w fun e w' => e = .returned (.tuple R) ∧ Below w.heap.size w w' := by
  obtain ⟨a, c, rfl, h⟩ := h
  by_cases h2 : 0 < l.length
  · obtain ⟨b, off, rfl, hb, hc⟩ := h h2
    exact rput39_at b off c l hn hok w hb hc R h1 h0
  · have hl : l = [] := List.length_eq_zero_iff.1 (by omega)
    subst hl
    rw [h1 (fun x h => by cases h)]
    exact rput39_none a c w
theorem rnum39 (s : ByteArray) (a n : Nat) (hn : n ≤ 8) (ha : a + n ≤ s.size) (hs : s.size ≤ 1000000) (w : World) :
    Calls Try.prog 64 #[.string s, .int .i64 a, .int .i64 n] w fun e w' => e = .returned (.int .u64 (num s a n)) ∧ w = w' := by
  go_enter Try.func64, Try.ntmps64
  go_wp2
  go_loopw [7, 8] (fun x y wr => ∃ k : Nat, k ≤ n ∧ x = .int .u64 (num s a k) ∧ y = .int .i64 ((a + k : Nat) : Int) ∧ w = wr) (fun _ y _ => (a + n) - (intOf y).toNat)
  case atStart => exact ⟨0, Nat.zero_le _, rfl, rfl, rfl⟩
  case round =>
    obtain ⟨k, hk, rfl, rfl, rfl⟩ := hrel
    by_cases hlt : k < n
    · have b := bt_bd s ((a + k : Nat) : Int)
      have nb := num_bd s a k
      have nb2 := num_bd s a (k + 1)
      have hp : (256 : Int) ^ (k + 1) ≤ 18446744073709551616 := by
        have : k = 0 ∨ k = 1 ∨ k = 2 ∨ k = 3 ∨ k = 4 ∨ k = 5 ∨ k = 6 ∨ k = 7 := by omega
        rcases this with h | h | h | h | h | h | h | h <;> rw [h] <;> decide
      have e1 : num s a (k + 1) = num s a k * 256 + bt s ((a + k : Nat) : Int) := rfl
      rw [e1] at nb2
      have E1 := Lib.hid e1
      clear e1
      obtain ⟨b0, b1⟩ := b
      obtain ⟨m0, m1⟩ := nb
      obtain ⟨m2, m3⟩ := nb2
      have m4 : num s a k * 256 + bt s ((a + k : Nat) : Int) ≤ 18446744073709551615 := by omega
      clear m1 m2 m3 hp
      obtain ⟨i, hi⟩ : ∃ i : Int, ((a + k : Nat) : Int) = i := ⟨_, rfl⟩
      rw [hi] at b0 b1 m4 E1 ⊢
      have x0 : 0 ≤ i := by omega
      have x1 : i < (s.size : Int) := by omega
      have x2 : i < (a : Int) + (n : Int) := by omega
      have x3 : (a : Int) + (n : Int) ≤ 1000000 := by omega
      obtain ⟨m, hm⟩ : ∃ m, num s a k = m := ⟨_, rfl⟩
      rw [hm] at m0 m4 E1 ⊢
      have HI := Lib.hid hi
      clear hm hi
      go_wp2
      go_roundw
      case rel => exact ⟨k + 1, by omega, by rw [E1.out], by have := HI.out; go_num, by trivial⟩
      case measure => have := HI.out; simp [intOf]; omega
    · have ek : k = n := by omega
      subst ek
      have x2 : ¬ ((a + k : Nat) : Int) < (a : Int) + (k : Int) := by omega
      go_wp2
      go_ret
      exact ⟨rfl, rfl⟩
end Go.Proofs.Ytapjebhdgcpdjaa
