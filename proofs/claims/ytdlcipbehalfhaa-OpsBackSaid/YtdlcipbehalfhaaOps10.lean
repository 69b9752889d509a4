/-
  What operations are put as, by the document's answer for layer 25. What lay below the heap's end stands.
-/
import Derived.Test.YtdlcipbehalfhaaOps9
namespace Go.Proofs.Ytdlcipbehalfhaa
set_option linter.unusedVariables false
set_option linter.unusedSimpArgs false
open Go.ChangeShapes Go.WideShapes Go.ChangeAt Go.RowKit
attribute [-go_sem] run_index_string binOp_string_eql binOp_string_neq run_string_add_if run_slice_string_from_if run_slice_string_to_if
attribute [local go_sem] index_bt add_fits slice_from slice_to eql_str neq_str alloc_drewN setCell_drewN

theorem fds_small (x : Opn) (h : x.right = true) (hx : x.ok) : (pb x.fds).size ≤ 19 := by
  have e5 : ∀ n, (enc ⟨5, n, ⟨#[]⟩⟩).size ≤ 10 := fun n => (fw_size n).2
  have e3 : ∀ n, (enc ⟨3, n, ⟨#[]⟩⟩).size = 4 := fun n => hib_size 4 n
  have e1 : ∀ n, (enc ⟨1, n, ⟨#[]⟩⟩).size = 1 := fun n => hib_size 1 n
  have ez : (pb []).size = 0 := rfl
  rcases x.right_cases h with ⟨f, i, n, rfl⟩ | rfl | rfl | ⟨t, rfl⟩ | ⟨n, rfl, _⟩
  · show (pb [⟨1, 1, ⟨#[]⟩⟩, ⟨3, f, ⟨#[]⟩⟩, ⟨3, i, ⟨#[]⟩⟩, ⟨5, n, ⟨#[]⟩⟩]).size ≤ 19
    rw [pb_cons, pb_cons, pb_cons, pb_cons, ByteArray.size_append, ByteArray.size_append, ByteArray.size_append, ByteArray.size_append, e1, e3, e3, ez]
    have := e5 n
    omega
  · show (pb [⟨1, 2, ⟨#[]⟩⟩]).size ≤ 19
    rw [pb_cons, ByteArray.size_append, e1, ez]; omega
  · show (pb [⟨1, 4, ⟨#[]⟩⟩]).size ≤ 19
    rw [pb_cons, ByteArray.size_append, e1, ez]; omega
  · show (pb [⟨1, 3, ⟨#[]⟩⟩, ⟨5, t, ⟨#[]⟩⟩]).size ≤ 19
    rw [pb_cons, pb_cons, ByteArray.size_append, ByteArray.size_append, e1, ez]
    have := e5 t
    omega
  · show (pb [⟨1, n, ⟨#[]⟩⟩]).size ≤ 19
    rw [pb_cons, ByteArray.size_append, e1, ez]; omega
theorem oput_small (l : List Opn) (h : ∀ x ∈ l, x.right = true ∧ x.ok) : (oput l).size ≤ 19 * l.length := by
  induction l with
  | nil => exact Nat.le_refl 0
  | cons x l ih =>
    have h1 := fds_small x (h x (by simp)).1 (h x (by simp)).2
    have h2 := ih fun y hy => h y (by simp [hy])
    rw [oput_cons, ByteArray.size_append, List.length_cons]
    omega
set_option maxRecDepth 100000 in
set_option maxHeartbeats 4000000 in
theorem rops_put_at (b off c : Nat) (l : List Opn) (hn : l.length ≤ 2000) (hok : ∀ x ∈ l, x.ok) (w : World) (hb : b < w.heap.size) (hc : OCells w b off l) (R : Array Value)
    (h1 : allR l = true → R = #[.string (oput l), .bool true]) (h0 : allR l = false → R = #[.string ⟨#[]⟩, .bool false]) :
    Calls Try.prog 22 #[.slice (some ⟨b, off, none⟩) l.length c] w fun e w' => e = .returned (.tuple R) ∧ Below w.heap.size w w' := by
  have HC := Lib.hid hc; have HOK := Lib.hid hok
  have R1 := Lib.hid h1; have R0 := Lib.hid h0
  clear hc hok h1 h0
  go_enter Try.func22, Try.ntmps22
  go_wp2
  go_loopw [4, 5] (fun x y wr => ∃ k : Nat, k ≤ l.length ∧ y = .int .i64 k ∧ x = .string (oput (l.take k)) ∧ (∀ x ∈ l.take k, x.right = true) ∧ Below w.heap.size w wr) (fun _ y _ => l.length - (intOf y).toNat)
  case atStart => exact ⟨0, Nat.zero_le _, rfl, rfl, fun x h => (by cases h), Below.refl _ _⟩
  case round =>
    obtain ⟨k, hk, rfl, rfl, hall, hbw⟩ := hrel
    have hsize := hbw.size
    by_cases hlt : k < l.length
    · obtain ⟨c0, c1, c2, c3, c4⟩ := HC.out k hlt
      have c0 := (hbw.cell (p := ⟨b, off + k * 5, none⟩) hb).trans c0
      have c1 := (hbw.cell (p := ⟨b, off + k * 5 + 1, none⟩) hb).trans c1
      have c2 := (hbw.cell (p := ⟨b, off + k * 5 + 2, none⟩) hb).trans c2
      have c3 := (hbw.cell (p := ⟨b, off + k * 5 + 3, none⟩) hb).trans c3
      have c4 := (hbw.cell (p := ⟨b, off + k * 5 + 4, none⟩) hb).trans c4
      have hx := HOK.out (l.getD k Opn.nil) (by rw [List.getD_eq_getElem?_getD, List.getElem?_eq_getElem hlt]; exact List.getElem_mem _)
      have x0 : (0 : Int) ≤ (k : Int) := by omega
      have x1 : (k : Int) < (l.length : Int) := by omega
      have hsm := oput_small (l.take k) fun x hx => ⟨hall x hx, HOK.out x (List.mem_of_mem_take hx)⟩
      have hfl3 : (l.take k).length ≤ k := List.length_take_le _ _
      have HA := Lib.hid hall
      have NO := Lib.hid (allR_take l k hlt)
      have YES := Lib.hid (right_snoc l k hlt hall)
      have TS := Lib.hid (take_snoc5 l k hlt)
      obtain ⟨x, hxe⟩ : ∃ x, l.getD k Opn.nil = x := ⟨_, rfl⟩
      rw [hxe] at hx c0 c1 c2 c3 c4 NO YES TS
      have KC := Lib.hid (show ∀ v, Below w.heap.size w v → v.cell? ⟨b, off + k * 5, none⟩ = some (.int .i64 x.k) ∧ v.cell? ⟨b, off + k * 5 + 1, none⟩ = some (.int .u32 x.fl) ∧ v.cell? ⟨b, off + k * 5 + 2, none⟩ = some (.int .u32 x.nr) ∧ v.cell? ⟨b, off + k * 5 + 3, none⟩ = some (.int .u64 x.ln) ∧ v.cell? ⟨b, off + k * 5 + 4, none⟩ = some (.int .u64 x.ti) from fun v hv => by
        obtain ⟨c0, c1, c2, c3, c4⟩ := HC.out k hlt
        rw [hxe] at c0 c1 c2 c3 c4
        exact ⟨(hv.cell (p := ⟨b, off + k * 5, none⟩) hb).trans c0, (hv.cell (p := ⟨b, off + k * 5 + 1, none⟩) hb).trans c1, (hv.cell (p := ⟨b, off + k * 5 + 2, none⟩) hb).trans c2, (hv.cell (p := ⟨b, off + k * 5 + 3, none⟩) hb).trans c3, (hv.cell (p := ⟨b, off + k * 5 + 4, none⟩) hb).trans c4⟩)
      clear hxe hall
      have RA := Lib.hid (fun W => rright_any x hx W)
      have HX := Lib.hid hx
      have HB := Lib.hid hbw
      clear hx hbw
      have FA := Lib.hid (fun h W => rfields_any x h HX.out W)
      have PA := Lib.hid (fun h => refPut_own x.fds (by have := fds_len x; omega) (fds_ok x h HX.out) (by have := perr_right [x] (by simp; exact ⟨h, HX.out⟩); unfold ofds at this; simpa using this))
      have SMX := Lib.hid (fun h => fds_small x h HX.out)
      obtain ⟨xk, xf, xi, xn, xt⟩ := x
      unfold Opn.val at RA FA
      simp only at c0 c1 c2 c3 c4 RA FA KC
      by_cases hr : (Opn.mk xk xf xi xn xt).right = true
      · rw [hr] at RA
        have FB := Lib.hid (FA.out hr)
        have PB := Lib.hid (PA.out hr)
        have hs19 := SMX.out hr
        have HR := Lib.hid hr
        clear FA NO hr PA SMX
        go_wp2_with fail
        refine (RA.out _).mono ?_
        rintro e w1 ⟨rfl, h1⟩
        have HB1 := Lib.hid (HB.out.trans (h1.mono hsize))
        have hb1 : b < w1.heap.size := Nat.lt_of_lt_of_le hb HB1.out.size
        obtain ⟨e0, e1, e2, e3, e4⟩ := KC.out _ HB1.out
        clear h1 c0 c1 c2 c3 c4
        go_wp2_with fail
        refine (FB.out _).mono ?_
        rintro e w2 ⟨v2, rfl, ho2, h2⟩
        have PC := Lib.hid (PB.out _ _ _ ho2)
        have HB2 := Lib.hid (HB1.out.trans (h2.mono HB1.out.size))
        clear h2 ho2 e0 e1 e2 e3 e4 PB
        have hpx : oput (l.take k) ++ pb (Opn.mk xk xf xi xn xt).fds = oput (l.take (k + 1)) := by rw [TS.out, oput_append, oput_one]
        have HPX := Lib.hid hpx
        clear hpx
        generalize pb (Opn.mk xk xf xi xn xt).fds = y at *
        have hfit : Fits (oput (l.take k)) y := ⟨by omega⟩
        go_wp2_with fail
        refine (PC.out).mono ?_
        rintro e w3 ⟨rfl, h3⟩
        have HB3 := Lib.hid (HB2.out.trans (h3.mono HB2.out.size))
        clear h3
        go_wp2
        go_roundw
        case rel => exact ⟨k + 1, by omega, by go_num, by rw [← HPX.out], YES.out HR.out, HB3.out⟩
        case measure => simp [intOf] <;> omega
      · have hr2 : (Opn.mk xk xf xi xn xt).right = false := by cases h : (Opn.mk xk xf xi xn xt).right <;> simp_all
        rw [hr2] at RA
        have HNO := Lib.hid (NO.out hr2)
        clear FA NO hr hr2 YES PA SMX
        go_wp2_with fail
        refine (RA.out _).mono ?_
        rintro e w1 ⟨rfl, h1⟩
        go_wp2
        go_ret2
        exact ⟨by rw [R0.out HNO.out]; rfl, HB.out.trans (h1.mono hsize)⟩
    · have ek : k = l.length := by omega
      subst ek
      have et : l.take l.length = l := List.take_of_length_le (by simp)
      rw [et] at hall
      rw [et]
      have HA := Lib.hid (allR_all l hall)
      have HB := Lib.hid hbw
      clear hall et hbw
      go_wp2
      go_ret2
      exact ⟨by rw [R1.out HA.out]; rfl, HB.out⟩
theorem rops_put_none (a : Option Addr) (c : Nat) (w : World) :
    Calls Try.prog 22 #[.slice a 0 c] w fun e w' => e = .returned (.tuple #[.string ⟨#[]⟩, .bool true]) ∧ Below w.heap.size w w' := by
  go_enter Try.func22, Try.ntmps22
  go_wp2
  refine wp_loop_rounds 1 ?_
  rw [rounds_succ]
  go_wp2
  go_ret2
  exact ⟨rfl, Below.refl _ _⟩
theorem rops_put (l : List Opn) (hn : l.length ≤ 2000) (hok : ∀ x ∈ l, x.ok) {w : World} {v : Value} (h : SRow w v l) (R : Array Value)
    (h1 : allR l = true → R = #[.string (oput l), .bool true]) (h0 : allR l = false → R = #[.string ⟨#[]⟩, .bool false]) :
    Calls Try.prog 22 #[v] w fun e w' => e = .returned (.tuple R) ∧ Below w.heap.size w w' := by
  obtain ⟨a, c, rfl, h⟩ := h
  by_cases h2 : 0 < l.length
  · obtain ⟨b, off, rfl, hb, hc⟩ := h h2
    exact rops_put_at b off c l hn hok w hb hc R h1 h0
  · have hl : l = [] := List.length_eq_zero_iff.1 (by omega)
    subst hl
    rw [h1 rfl]
    exact rops_put_none a c w
end Go.Proofs.Ytdlcipbehalfhaa
