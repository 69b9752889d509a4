/-
  How a slice of replies is opened: the kind, the code and the packet of each. Plain laws on how data read. No condition.
-/
import Derived.Test.YtapjebhdgcpdjaaOpen2
namespace Go.Proofs.Ytapjebhdgcpdjaa
set_option linter.unusedVariables false
set_option linter.unusedSimpArgs false
open Go.ChangeShapes Go.WideShapes Go.ChangeAt Go.RowKit

/-- What is read of a reply: kind, code, the packet's flow, number and length. -/
structure Rep27 where
  k : Int
  c : Int
  fl : Int
  nr : Int
  ln : Int
def Rep27.ok (f : Rep27) : Prop := (-9223372036854775808 ≤ f.k ∧ f.k ≤ 9223372036854775807) ∧ (-9223372036854775808 ≤ f.c ∧ f.c ≤ 9223372036854775807) ∧ (0 ≤ f.fl ∧ f.fl ≤ 4294967295) ∧ (0 ≤ f.nr ∧ f.nr ≤ 4294967295) ∧ (0 ≤ f.ln ∧ f.ln ≤ 18446744073709551615)
def Rep27.nil : Rep27 := ⟨0, 0, 0, 0, 0⟩
theorem mapM_at {α β : Type} (f : α → Option β) : ∀ (l : List α) (cs : List β), l.mapM f = some cs → ∀ (j : Nat) (a : α), l[j]? = some a → ∃ v, f a = some v ∧ cs[j]? = some v := by
  intro l
  induction l with
  | nil => intro cs _ j a h; simp at h
  | cons x l ih =>
    intro cs h j a hj
    simp only [List.mapM_cons, Option.bind_eq_bind, Option.bind_eq_some_iff, Option.pure_def, Option.some.injEq] at h
    obtain ⟨v, hv, r, hr, rfl⟩ := h
    cases j with
    | zero =>
      simp at hj
      subst hj
      exact ⟨v, hv, rfl⟩
    | succ j =>
      simp at hj
      obtain ⟨u, hu, hc⟩ := ih r hr j a hj
      exact ⟨u, hu, by simpa using hc⟩
theorem take_1 {β : Type} {cs : List β} {j : Nat} {v : β} (h : cs[j]? = some v) : (cs.drop j).take 1 = [v] := by
  have : (cs.drop j)[0]? = some v := by rw [List.getElem?_drop]; simpa using h
  cases hd : cs.drop j with
  | nil => rw [hd] at this; simp at this
  | cons a l => rw [hd] at this; simp at this; subst this; rfl
theorem take_3 {β : Type} {cs : List β} {j : Nat} {u v x : β} (h0 : cs[j]? = some u) (h1 : cs[j + 1]? = some v) (h2 : cs[j + 2]? = some x) : (cs.drop j).take 3 = [u, v, x] := by
  have e0 : (cs.drop j)[0]? = some u := by rw [List.getElem?_drop]; simpa using h0
  have e1 : (cs.drop j)[1]? = some v := by rw [List.getElem?_drop]; exact h1
  have e2 : (cs.drop j)[2]? = some x := by rw [List.getElem?_drop]; exact h2
  generalize cs.drop j = d at *
  match d, e0, e1, e2 with
  | [], e0, _, _ => simp at e0
  | [_], _, e1, _ => simp at e1
  | [_, _], _, _, e2 => simp at e2
  | a :: b :: c :: l, e0, e1, e2 =>
    simp at e0 e1 e2
    subst e0 e1 e2
    rfl
section
variable {H : Type} {enc : TypeId × Value → H} {P : Program} {w : World} {base : Nat} {spare : Nat → Bool} {held : Bool}
/-- A slice of replies that came in; E cells each. -/
def RowR27 (E : Nat) (w : World) (a : Option Addr) (n : Nat) (fs : List Rep27) : Prop :=
  fs.length = n ∧ n ≤ maxLen ∧ (∀ x ∈ fs, x.ok) ∧ (0 < n → ∃ b off, a = some ⟨b, off, none⟩ ∧ b < w.heap.size ∧ ∀ i, i < n →
    w.cell? ⟨b, off + i * E, none⟩ = some (.int .i64 (fs.getD i Rep27.nil).k) ∧ w.cell? ⟨b, off + i * E + 1, none⟩ = some (.int .i64 (fs.getD i Rep27.nil).c) ∧ w.cell? ⟨b, off + i * E + 2, none⟩ = some (.int .u32 (fs.getD i Rep27.nil).fl) ∧ w.cell? ⟨b, off + i * E + 3, none⟩ = some (.int .u32 (fs.getD i Rep27.nil).nr) ∧ w.cell? ⟨b, off + i * E + 4, none⟩ = some (.int .u64 (fs.getD i Rep27.nil).ln) ∧ ∀ j, j < E → ∃ u, w.cell? ⟨b, off + i * E + j, none⟩ = some u)
theorem open_replies {E : Nat} (hE5 : 5 ≤ E) {r : Reach} {b0 : Nat} {t e : TypeId} {f0 f1 f2 f3 f4 g0 g1 g2 : Field} {v : Value} {d : DataW H} {ps : List MemPlace} (ht : P.underlying t = some (.slice e)) (he : P.underlying e = some (.struct #[f0, f1, f2, f3, f4])) (hp : P.underlying f2.type = some (.struct #[g0, g1, g2])) (hE : P.cellsOf e = E)
    (o0 : f0.offset = 0) (o1 : f1.offset = 1) (o2 : f2.offset = 2) (c0 : P.cellsOf f0.type = 1) (c1 : P.cellsOf f1.type = 1) (c2 : P.cellsOf f2.type = 3)
    (p0 : g0.offset = 0) (p1 : g1.offset = 1) (p2 : g2.offset = 2) (d0 : P.cellsOf g0.type = 1) (d1 : P.cellsOf g1.type = 1) (d2 : P.cellsOf g2.type = 1)
    (u0 : P.underlying f0.type = some (.int .i64)) (u1 : P.underlying f1.type = some (.int .i64)) (u2 : P.underlying g0.type = some (.int .u32)) (u3 : P.underlying g1.type = some (.int .u32)) (u4 : P.underlying g2.type = some (.int .u64))
    (hval : Value.okWide P w r b0 t v) (hd : DataW.Trod enc P w base spare held t v d ps) :
    ∃ a n cap fs, v = .slice a n cap ∧ RowR27 E w a n fs ∧ n ≤ cap := by
  obtain ⟨a0, len, cap, rfl⟩ := okWide_slice ht hval
  obtain ⟨fuel, hf⟩ := hd
  rcases DataW.trod_slice ht hf with ⟨hcs, _⟩ | ⟨x, l, c, elems, rest, m, _, hcs, _, _, hl, hm, hlen, hel, _, _⟩
  · simp [Value.cells] at hcs
    obtain ⟨rfl, rfl, rfl⟩ := hcs
    exact ⟨none, 0, 0, [], rfl, ⟨rfl, Nat.zero_le _, by simp, fun h => absurd h (by omega)⟩, Nat.le_refl _⟩
  · simp [Value.cells] at hcs
    obtain ⟨rfl, rfl, rfl⟩ := hcs
    rw [hE] at hel
    have each : ∀ i, i < len → ∃ f : Rep27, f.ok ∧ w.cell? (x.add (i * E)) = some (.int .i64 f.k) ∧ w.cell? ((x.add (i * E)).add 1) = some (.int .i64 f.c) ∧ w.cell? ((x.add (i * E)).add 2) = some (.int .u32 f.fl) ∧ w.cell? ((x.add (i * E)).add 3) = some (.int .u32 f.nr) ∧ w.cell? ((x.add (i * E)).add 4) = some (.int .u64 f.ln) ∧ ∀ j, j < E → ∃ u, w.cell? ((x.add (i * E)).add j) = some u := by
      intro i hi
      have h := hel i hi
      rw [List.getElem?_eq_getElem (by omega)] at h
      obtain ⟨cs, hcs, htr⟩ := Option.bind_eq_some_iff.1 h
      unfold World.cells? at hcs
      split at hcs
      · have M := mapM_at _ _ _ hcs
        obtain ⟨v0, q0, z0⟩ := M 0 0 (List.getElem?_range (by omega))
        obtain ⟨v1, q1, z1⟩ := M 1 1 (List.getElem?_range (by omega))
        obtain ⟨v2, q2, z2⟩ := M 2 2 (List.getElem?_range (by omega))
        obtain ⟨v3, q3, z3⟩ := M 3 3 (List.getElem?_range (by omega))
        obtain ⟨v4, q4, z4⟩ := M 4 4 (List.getElem?_range (by omega))
        have MA : ∀ j, j < E → ∃ u, w.cell? ((x.add (i * E)).add j) = some u := fun j hj => by
          obtain ⟨u, hu, _⟩ := M j j (List.getElem?_range hj)
          exact ⟨u, hu⟩
        clear M
        obtain ⟨xs, n', _, _, _, hxl, hx⟩ := DataW.trod_struct he htr
        have h0 := hx 0 f0 rfl
        have h1 := hx 1 f1 rfl
        have h2 := hx 2 f2 rfl
        rw [o0, c0, take_1 z0] at h0
        rw [o1, c1, take_1 z1] at h1
        rw [o2, c2, take_3 z2 z3 z4] at h2
        match xs, hxl with
        | [y0, y1, y2, y3, y4], _ =>
          simp at h0 h1 h2
          obtain ⟨k, e0, _, w0⟩ := DataW.trod_int u0 h0
          obtain ⟨c, e1, _, w1⟩ := DataW.trod_int u1 h1
          obtain ⟨ys, n2, _, _, _, hyl, hy⟩ := DataW.trod_struct hp h2
          have k0 := hy 0 g0 rfl
          have k1 := hy 1 g1 rfl
          have k2 := hy 2 g2 rfl
          rw [p0, d0] at k0; rw [p1, d1] at k1; rw [p2, d2] at k2
          match ys, hyl with
          | [t0, t1, t2], _ =>
            simp at k0 k1 k2
            obtain ⟨fl, e2, _, w2⟩ := DataW.trod_int u2 k0
            obtain ⟨nr, e3, _, w3⟩ := DataW.trod_int u3 k1
            obtain ⟨ln, e4, _, w4⟩ := DataW.trod_int u4 k2
            simp at e0 e1 e2 e3 e4
            subst e0 e1 e2 e3 e4
            refine ⟨⟨k, c, fl, nr, ln⟩, ⟨bounds_i64 w0, bounds_i64 w1, bounds_u32 w2, bounds_u32 w3, bounds_u64 w4⟩, ?_, q1, q2, q3, q4, MA⟩
            have : (x.add (i * E)).add 0 = x.add (i * E) := by simp [Addr.add]
            rw [this] at q0
            exact q0
      · cases hcs
    by_cases h0 : len = 0
    · subst h0
      exact ⟨some x, 0, cap, [], rfl, ⟨rfl, Nat.zero_le _, by simp, fun h => absurd h (by omega)⟩, hl⟩
    · obtain ⟨b, off, spot⟩ := x
      have hspot : spot = none := by
        obtain ⟨f, _, hc, _⟩ := each 0 (by omega)
        simpa [Addr.add] using World.cell?_spot hc
      subst hspot
      simp only [Go.WideShapes.add_plain] at each
      have hb : b < w.heap.size := by
        obtain ⟨f, _, hc, _⟩ := each 0 (by omega)
        exact block_lt hc
      obtain ⟨g, hg⟩ : ∃ g : Nat → Rep27, ∀ i, i < len → (g i).ok ∧ w.cell? ⟨b, off + i * E, none⟩ = some (.int .i64 (g i).k) ∧ w.cell? ⟨b, off + i * E + 1, none⟩ = some (.int .i64 (g i).c) ∧ w.cell? ⟨b, off + i * E + 2, none⟩ = some (.int .u32 (g i).fl) ∧ w.cell? ⟨b, off + i * E + 3, none⟩ = some (.int .u32 (g i).nr) ∧ w.cell? ⟨b, off + i * E + 4, none⟩ = some (.int .u64 (g i).ln) ∧ ∀ j, j < E → ∃ u, w.cell? ⟨b, off + i * E + j, none⟩ = some u :=
        ⟨fun i => if h : i < len then Classical.choose (each i h) else Rep27.nil, fun i hi => by
          simp only [dif_pos hi]
          exact Classical.choose_spec (each i hi)⟩
      refine ⟨some ⟨b, off, none⟩, len, cap, (List.range len).map g, rfl, ⟨by simp, by omega, fun y hy => ?_, fun _ => ⟨b, off, rfl, hb, fun i hi => ?_⟩⟩, hl⟩
      · obtain ⟨i, hi, rfl⟩ := List.mem_map.1 hy
        exact (hg i (List.mem_range.1 hi)).1
      · have e : ((List.range len).map g).getD i Rep27.nil = g i := by
          rw [List.getD_eq_getElem?_getD, List.getElem?_map, List.getElem?_range hi]; rfl
        rw [e]
        exact (hg i hi).2
end
end Go.Proofs.Ytapjebhdgcpdjaa
