/-
  All fields' bytes, one behind the other, by package wire and by the document's answer, or what is wrong with the first one that is wrong; for at most ten thousand fields. What lay below the heap's end stands.
-/
import Derived.Test.YtapjebhdgcpdjaaWireP2
import Derived.Test.YtapjebhdgcpdjaaSumCat
namespace Go.Proofs.Ytapjebhdgcpdjaa
set_option linter.unusedVariables false
set_option linter.unusedSimpArgs false
open Go.ChangeShapes Go.WideShapes Go.ChangeAt Go.RowKit
attribute [-go_sem] run_index_string binOp_string_eql binOp_string_neq run_string_add_if run_slice_string_from_if run_slice_string_to_if
attribute [local go_sem] index_bt add_fits slice_from slice_to eql_str neq_str alloc_drewN setCell_drewN

/-- What is wrong with the first field that is wrong; 0: nothing. -/
def perr : List Fd → Int
  | [] => 0
  | f :: fs => if er f ≠ 0 then er f else perr fs
/-- All fields' bytes. -/
def pb (fs : List Fd) : ByteArray := cat (fs.map enc)
theorem perr_at (fs : List Fd) : ∀ k, (∀ i, i < k → er (fs.getD i Fd.nil) = 0) → k < fs.length → er (fs.getD k Fd.nil) ≠ 0 → perr fs = er (fs.getD k Fd.nil) := by
  induction fs with
  | nil => intro k _ h; simp at h
  | cons f fs ih =>
    intro k h0 hk he
    unfold perr
    cases k with
    | zero =>
      have he' : er f ≠ 0 := he
      rw [if_pos he']; rfl
    | succ k =>
      have := h0 0 (by omega)
      rw [if_neg (by simpa using this)]
      exact ih k (fun i hi => by have := h0 (i + 1) (by omega); simpa using this) (by simpa using hk) (by simpa using he)
theorem perr_all (fs : List Fd) : (∀ i, i < fs.length → er (fs.getD i Fd.nil) = 0) → perr fs = 0 := by
  induction fs with
  | nil => intro _; rfl
  | cons f fs ih =>
    intro h
    unfold perr
    have := h 0 (by simp)
    rw [if_neg (by simpa using this)]
    exact ih (fun i hi => by have := h (i + 1) (by simp; omega); simpa using this)
theorem perr_none (fs : List Fd) : perr fs = 0 → ∀ i, i < fs.length → er (fs.getD i Fd.nil) = 0 := by
  induction fs with
  | nil => intro _ i h; simp at h
  | cons f fs ih =>
    intro h i hi
    unfold perr at h
    by_cases he : er f = 0
    · rw [if_neg (by simpa using he)] at h
      cases i with
      | zero => simpa using he
      | succ i => have := ih h i (by simpa using hi); simpa using this
    · rw [if_pos he] at h
      exact absurd h he
theorem pb_take (fs : List Fd) (k : Nat) (h : k < fs.length) : pb (fs.take k) ++ enc (fs.getD k Fd.nil) = pb (fs.take (k + 1)) := by
  unfold pb
  have := cat_take (fs.map enc) k (by simpa using h)
  rw [List.map_take, List.map_take, ← this]
  congr 1
  rw [List.getD_eq_getElem?_getD, List.getD_eq_getElem?_getD, List.getElem?_map, List.getElem?_eq_getElem h]
  rfl
theorem enc_small (f : Fd) (h : er f = 0) : (enc f).size ≤ 65545 := by
  obtain ⟨r1, r6, rs, _⟩ := er_range f h
  rw [enc_size f r1 r6]
  have h1 := fw_size (f.s.size : Int)
  have h2 := fw_size f.n
  split
  · omega
  · split
    · omega
    · unfold wk; (repeat' split) <;> omega
theorem pb_small (fs : List Fd) : ∀ k, k ≤ fs.length → (∀ i, i < k → er (fs.getD i Fd.nil) = 0) → (pb (fs.take k)).size ≤ k * 65545
  | 0, _, _ => by show (pb []).size ≤ _; exact Nat.zero_le _
  | k + 1, hk, h => by
    have ih := pb_small fs k (by omega) (fun i hi => h i (by omega))
    have hs := enc_small _ (h k (by omega))
    rw [← pb_take fs k (by omega), ByteArray.size_append]
    omega

theorem conv_own (W : World) (base : Nat) (v : Value) (t : ByteArray) (h : Own W base v t) : (convert 114 9 v).run Try.prog W = .ok (.string t) W := by
  rcases h.2 with ⟨rfl, h0⟩ | ⟨g, cap, cur, rfl, _⟩
  · have : t = ⟨#[]⟩ := str_ext h0 (fun i hi => absurd hi (by omega))
    rw [this]
    rw [run_convert_bytes_string W _ _ 5 _ _ _ Try.underlying114 Try.underlying5 Try.underlying9]
    rfl
  · have := run_convert_bytes_back W 114 9 5 ⟨g, 0, none⟩ cap t.data.toList Try.underlying114 Try.underlying5 Try.underlying9 (fun j hj => by
      have := h.cells (g := g) rfl j (.int .u8 ((t.data.toList[j]).toNat : Int)) (by
        unfold Lib.strCells
        rw [List.getElem?_map, List.getElem?_eq_getElem hj]; rfl)
      exact this)
    rw [len_data] at this
    exact this

set_option maxRecDepth 100000 in
set_option maxHeartbeats 1000000 in
theorem Put_at (b off c : Nat) (fs : List Fd) (hn : fs.length ≤ 10000) (hok : ∀ x ∈ fs, x.ok) (w : World) (hb : b < w.heap.size)
    (hc : ∀ i, i < fs.length → w.cell? ⟨b, off + i * 3, none⟩ = some (.int .i64 (fs.getD i Fd.nil).k) ∧ w.cell? ⟨b, off + i * 3 + 1, none⟩ = some (.int .u64 (fs.getD i Fd.nil).n) ∧ w.cell? ⟨b, off + i * 3 + 2, none⟩ = some (.string (fs.getD i Fd.nil).s))
    (R : Array Value) (h0 : perr fs = 0 → R = #[.string (pb fs), .int .i64 0]) (h1 : perr fs ≠ 0 → R = #[.string ⟨#[]⟩, .int .i64 (perr fs)]) :
    Calls Try.prog 84 #[.slice (some ⟨b, off, none⟩) fs.length c] w fun e w' => e = .returned (.tuple R) ∧ Below w.heap.size w w' := by
  have R0 := Lib.hid h0; have R1 := Lib.hid h1
  clear h0 h1
  have HC := Lib.hid hc; have HOK := Lib.hid hok
  clear hc hok
  go_enter Try.func84, Try.ntmps84
  go_wp2
  go_loopw [4, 10] (fun x y wr => ∃ (v : Value) (k : Nat), v = x ∧ k ≤ fs.length ∧ y = .int .i64 k ∧ (∀ i, i < k → er (fs.getD i Fd.nil) = 0) ∧ Own wr w.heap.size v (pb (fs.take k)) ∧ Below w.heap.size w wr) (fun _ y _ => fs.length - (intOf y).toNat)
  case atStart => exact ⟨_, 0, rfl, Nat.zero_le _, rfl, fun i h => by omega, World.ownsRow_nil _ _ _ _, Below.refl _ _⟩
  case round =>
    obtain ⟨v, k, rfl, hk, rfl, hall, ho, hbw⟩ := hrel
    have hsize := hbw.size
    have hsm := pb_small fs k hk hall
    by_cases hlt : k < fs.length
    · obtain ⟨c0, c1, c2⟩ := HC.out k hlt
      have c0 := (hbw.cell (p := ⟨b, off + k * 3, none⟩) hb).trans c0
      have c1 := (hbw.cell (p := ⟨b, off + k * 3 + 1, none⟩) hb).trans c1
      have c2 := (hbw.cell (p := ⟨b, off + k * 3 + 2, none⟩) hb).trans c2
      have hf := HOK.out (fs.getD k Fd.nil) (by rw [List.getD_eq_getElem?_getD, List.getElem?_eq_getElem hlt]; exact List.getElem_mem _)
      obtain ⟨⟨k0, k1⟩, ⟨n0, n1⟩, s1⟩ := hf
      have PT := Lib.hid (pb_take fs k hlt)
      have PE := Lib.hid (perr_at fs k hall hlt)
      have HA := Lib.hid hall; have HO := Lib.hid ho; have HB := Lib.hid hbw; have HS := Lib.hid hsm
      clear hall ho hbw hsm
      obtain ⟨fk, fn, fz, hfd⟩ : ∃ fk fn fz, fs.getD k Fd.nil = ⟨fk, fn, fz⟩ := ⟨_, _, _, rfl⟩
      have HFD := Lib.hid hfd
      rw [hfd] at c0 c1 c2 k0 k1 n0 n1 s1
      simp only at c0 c1 c2 k0 k1 n0 n1 s1
      clear hfd
      have CH := Lib.hid (fun w => check_any fk fn fz k0 k1 n0 n1 s1 w)
      go_wp2_with fail
      refine (CH.out _).mono ?_
      rintro e w1 ⟨rfl, h1⟩
      have hc1 := field_cells _ _ _ _ _ _ h1
      have HW1 : Hid (Below w.heap.size w w1) := Lib.hid ((HB.out.alloc hsize _).trans (h1.mono (by simp; omega)))
      have HO1 : Hid (Own w1 w.heap.size v (pb (fs.take k))) := Lib.hid (by
        have ha : Own (wr.alloc (.cells #[.int .i64 fk, .int .u64 fn, .string fz] 158)) w.heap.size v (pb (fs.take k)) := World.ownsRow.alloc HO.out _
        exact World.ownsRow.kept ha (row := some w1.heap.size) ⟨h1.os, h1.tape, h1.output, h1.size, fun k hk _ => h1.block k hk⟩ (Or.inr (fun h => by
          have := World.ownsRow.lt ha _ h
          have := h1.size
          omega)))
      obtain ⟨d0, d1, d2⟩ := hc1
      clear h1 c0 c1 c2
      by_cases he : er ⟨fk, fn, fz⟩ = 0
      · have PU := Lib.hid (put_any w.heap.size v (pb (fs.take k)) fk fn fz k0 k1 n0 n1 he (by have := HS.out; omega) w1 (by have := HW1.out.size; omega) HO1.out)
        rw [he]
        have HE := Lib.hid he; clear he
        go_wp2_with fail
        refine (PU.out).mono ?_
        rintro e w2 ⟨v2, rfl, ho2, hb2⟩
        go_wp2
        go_roundw
        case rel => exact ⟨v2, k + 1, rfl, by omega, by go_num, fun i hi => by
            by_cases h : i = k
            · rw [h, HFD.out]; exact HE.out
            · exact HA.out i (by omega), by rw [← PT.out, HFD.out]; exact ho2, HW1.out.trans hb2⟩
        case measure => simp [intOf] <;> omega
      · have g : (er ⟨fk, fn, fz⟩ != 0) = true := by simp [he]
        have hp : perr fs = er ⟨fk, fn, fz⟩ := by
          have := PE.out (by rw [HFD.out]; exact he)
          rw [HFD.out] at this
          exact this
        have hne : perr fs ≠ 0 := by rw [hp]; exact he
        have HNE := Lib.hid he
        clear he hne
        generalize er ⟨fk, fn, fz⟩ = x at *
        have HP := Lib.hid hp; clear hp
        go_wp2
        go_ret2
        exact ⟨by rw [R1.out (by rw [HP.out]; exact HNE.out), HP.out]; rfl, HW1.out⟩
    · have ek : k = fs.length := by omega
      subst ek
      have et : fs.take fs.length = fs := List.take_of_length_le (by simp)
      rw [et] at ho
      have hp := perr_all fs hall
      have HP := Lib.hid hp
      have cv := conv_own _ _ _ _ ho
      clear hall hp et hsm
      go_wp2
      go_ret2
      exact ⟨by rw [R0.out HP.out]; rfl, hbw⟩
theorem Put_none (a : Option Addr) (c : Nat) (w : World) :
    Calls Try.prog 84 #[.slice a 0 c] w fun e w' => e = .returned (.tuple #[.string ⟨#[]⟩, .int .i64 0]) ∧ Below w.heap.size w w' := by
  have cv := conv_own w w.heap.size (.slice none 0 0) ⟨#[]⟩ (World.ownsRow_nil _ _ _ _)
  go_enter Try.func84, Try.ntmps84
  go_wp2
  refine wp_loop_rounds 1 ?_
  rw [rounds_succ]
  go_wp2
  go_ret2
  exact ⟨rfl, Below.refl _ _⟩
set_option maxRecDepth 100000 in
set_option maxHeartbeats 1000000 in
theorem refPut_at (b off c : Nat) (fs : List Fd) (hn : fs.length ≤ 10000) (hok : ∀ x ∈ fs, x.ok) (w : World) (hb : b < w.heap.size)
    (hc : ∀ i, i < fs.length → w.cell? ⟨b, off + i * 3, none⟩ = some (.int .i64 (fs.getD i Fd.nil).k) ∧ w.cell? ⟨b, off + i * 3 + 1, none⟩ = some (.int .u64 (fs.getD i Fd.nil).n) ∧ w.cell? ⟨b, off + i * 3 + 2, none⟩ = some (.string (fs.getD i Fd.nil).s))
    (R : Array Value) (h0 : perr fs = 0 → R = #[.string (pb fs), .int .i64 0]) (h1 : perr fs ≠ 0 → R = #[.string ⟨#[]⟩, .int .i64 (perr fs)]) :
    Calls Try.prog 86 #[.slice (some ⟨b, off, none⟩) fs.length c] w fun e w' => e = .returned (.tuple R) ∧ Below w.heap.size w w' := by
  have R0 := Lib.hid h0; have R1 := Lib.hid h1
  clear h0 h1
  have HC := Lib.hid hc; have HOK := Lib.hid hok
  clear hc hok
  go_enter Try.func86, Try.ntmps86
  go_wp2
  go_loopw [4, 5] (fun x y wr => ∃ k : Nat, k ≤ fs.length ∧ y = .int .i64 k ∧ x = .string (pb (fs.take k)) ∧ (∀ i, i < k → er (fs.getD i Fd.nil) = 0) ∧ Below w.heap.size w wr) (fun _ y _ => fs.length - (intOf y).toNat)
  case atStart => exact ⟨0, Nat.zero_le _, rfl, rfl, fun i h => by omega, Below.refl _ _⟩
  case round =>
    obtain ⟨k, hk, rfl, rfl, hall, hbw⟩ := hrel
    have hsize := hbw.size
    have hsm := pb_small fs k hk hall
    by_cases hlt : k < fs.length
    · obtain ⟨c0, c1, c2⟩ := HC.out k hlt
      have c0 := (hbw.cell (p := ⟨b, off + k * 3, none⟩) hb).trans c0
      have c1 := (hbw.cell (p := ⟨b, off + k * 3 + 1, none⟩) hb).trans c1
      have c2 := (hbw.cell (p := ⟨b, off + k * 3 + 2, none⟩) hb).trans c2
      have hmem : fs.getD k Fd.nil ∈ fs := by rw [List.getD_eq_getElem?_getD, List.getElem?_eq_getElem hlt]; exact List.getElem_mem _
      have hf := HOK.out _ hmem
      obtain ⟨⟨k0, k1⟩, ⟨n0, n1⟩, s1⟩ := hf
      have PT := Lib.hid (pb_take fs k hlt)
      have PE := Lib.hid (perr_at fs k hall hlt)
      have HA := Lib.hid hall; have HB := Lib.hid hbw; have HS := Lib.hid hsm
      clear hall hbw hsm hmem
      obtain ⟨fk, fn, fz, hfd⟩ : ∃ fk fn fz, fs.getD k Fd.nil = ⟨fk, fn, fz⟩ := ⟨_, _, _, rfl⟩
      have HFD := Lib.hid hfd
      rw [hfd] at c0 c1 c2 k0 k1 n0 n1 s1
      simp only at c0 c1 c2 k0 k1 n0 n1 s1
      have hz : fz.size ≤ 9223372036854775807 := s1
      clear hfd
      have ON := Lib.hid (fun w => one_any fk fn fz k0 k1 n0 n1 hz w)
      by_cases he : er ⟨fk, fn, fz⟩ = 0
      · have een : en ⟨fk, fn, fz⟩ = enc ⟨fk, fn, fz⟩ := by unfold en; rw [if_pos he]
        rw [he, een] at ON
        have hes := enc_small _ he
        have hfit : Fits (pb (fs.take k)) (enc ⟨fk, fn, fz⟩) := ⟨by have := HS.out; omega⟩
        have HE := Lib.hid he; clear he een hes
        rw [HFD.out] at PT
        generalize enc ⟨fk, fn, fz⟩ = y at *
        go_wp2_with fail
        refine (ON.out _).mono ?_
        rintro e w1 ⟨rfl, h1⟩
        go_wp2
        go_roundw
        case rel => exact ⟨k + 1, by omega, by go_num, by rw [← PT.out], fun i hi => by
            by_cases h : i = k
            · rw [h, HFD.out]; exact HE.out
            · exact HA.out i (by omega), HB.out.trans (h1.mono hsize)⟩
        case measure => simp [intOf] <;> omega
      · have g : (er ⟨fk, fn, fz⟩ != 0) = true := by simp [he]
        have hp : perr fs = er ⟨fk, fn, fz⟩ := by
          have := PE.out (by rw [HFD.out]; exact he)
          rw [HFD.out] at this
          exact this
        have HNE := Lib.hid he
        clear he
        generalize er ⟨fk, fn, fz⟩ = x at *
        generalize en ⟨fk, fn, fz⟩ = y at *
        have HP := Lib.hid hp; clear hp
        go_wp2_with fail
        refine (ON.out _).mono ?_
        rintro e w1 ⟨rfl, h1⟩
        go_wp2
        go_ret2
        exact ⟨by rw [R1.out (by rw [HP.out]; exact HNE.out), HP.out]; rfl, HB.out.trans (h1.mono hsize)⟩
    · have ek : k = fs.length := by omega
      subst ek
      have et : fs.take fs.length = fs := List.take_of_length_le (by simp)
      rw [et]
      have HP := Lib.hid (perr_all fs hall)
      clear hall et hsm
      go_wp2
      go_ret2
      exact ⟨by rw [R0.out HP.out]; rfl, hbw⟩
theorem refPut_none (a : Option Addr) (c : Nat) (w : World) :
    Calls Try.prog 86 #[.slice a 0 c] w fun e w' => e = .returned (.tuple #[.string ⟨#[]⟩, .int .i64 0]) ∧ Below w.heap.size w w' := by
  go_enter Try.func86, Try.ntmps86
  go_wp2
  refine wp_loop_rounds 1 ?_
  rw [rounds_succ]
  go_wp2
  go_ret2
  exact ⟨rfl, Below.refl _ _⟩
end Go.Proofs.Ytapjebhdgcpdjaa
