/-
  What else stands in a reply that came in: its rank, and the numbers of its stats, each of them a whole number. Plain laws on how data read. No condition.
-/
import Derived.Test.YtapjebhdgcpdjaaOpen27
namespace Go.Proofs.Ytapjebhdgcpdjaa
set_option linter.unusedVariables false
set_option linter.unusedSimpArgs false
open Go.ChangeShapes Go.WideShapes Go.ChangeAt Go.RowKit

theorem at_of_take {β : Type} {l : List β} {o : Nat} {v : β} (h : (l.drop o).take 1 = [v]) : l[o]? = some v := by
  have : ((l.drop o).take 1)[0]? = some v := by rw [h]; rfl
  rw [List.getElem?_take, if_pos (by omega), List.getElem?_drop] at this
  simpa using this
section
variable {H : Type} {enc : TypeId × Value → H} {P : Program} {w : World} {base : Nat} {spare : Nat → Bool} {held : Bool}
theorem int_in {t : TypeId} {k : IntKind} {fuel : Nat} {l : List Value} {o : Nat} {x : Option (DataW H × List MemPlace)} (u : P.underlying t = some (.int k)) (h : DataW.trod enc P w base spare held fuel t ((l.drop o).take 1) = x) (hx : x.isSome = true) : ∃ n, l[o]? = some (.int k n) := by
  obtain ⟨y, rfl⟩ := Option.isSome_iff_exists.1 hx
  obtain ⟨n, hn, _⟩ := DataW.trod_int u h
  exact ⟨n, at_of_take hn⟩
theorem some_at {α : Type} {l : List α} {i : Nat} (h : i < l.length) : (l[i]?).isSome = true := by rw [List.getElem?_eq_getElem h]; rfl
theorem replies_one {t e e4 : TypeId} {f0 f1 f2 f3 f4 s0 s1 s2 s3 s4 : Field} {a : Option Addr} {n cap : Nat} {d : DataW H} {ps : List MemPlace} (ht : P.underlying t = some (.slice e)) (he : P.underlying e = some (.struct #[f0, f1, f2, f3, f4])) (hE : P.cellsOf e = 42) (hs : P.underlying f4.type = some (.struct #[s0, s1, s2, s3, s4]))
    (o3 : f3.offset = 5) (o4 : f4.offset = 6) (c3 : P.cellsOf f3.type = 1) (c4 : P.cellsOf f4.type = 36) (u3 : P.underlying f3.type = some (.int .u64))
    (q0 : s0.offset = 0) (q1 : s1.offset = 1) (q2 : s2.offset = 2) (q3 : s3.offset = 3) (q4 : s4.offset = 4) (z0 : P.cellsOf s0.type = 1) (z1 : P.cellsOf s1.type = 1) (z2 : P.cellsOf s2.type = 1) (z3 : P.cellsOf s3.type = 1) (z4 : P.cellsOf s4.type = 32)
    (y0 : P.underlying s0.type = some (.int .u64)) (y1 : P.underlying s1.type = some (.int .u64)) (y2 : P.underlying s2.type = some (.int .i64)) (y3 : P.underlying s3.type = some (.int .u64)) (ha : P.underlying s4.type = some (.array 32 e4)) (ze : P.cellsOf e4 = 1) (ye : P.underlying e4 = some (.int .u64))
    (hd : DataW.Trod enc P w base spare held t (.slice a n cap) d ps) :
    ∀ b off, a = some ⟨b, off, none⟩ → ∀ i, i < n → ∀ j, 5 ≤ j → j < 42 → ∃ k m, w.cell? ⟨b, off + i * 42 + j, none⟩ = some (.int k m) := by
  obtain ⟨fuel, hf⟩ := hd
  rcases DataW.trod_slice ht hf with ⟨hcs, _⟩ | ⟨x, l, c, elems, rest, m, _, hcs, _, _, hl, hm, hlen, hel, _, _⟩
  · simp [Value.cells] at hcs
    obtain ⟨rfl, rfl, rfl⟩ := hcs
    intro b off h
    cases h
  · simp [Value.cells] at hcs
    obtain ⟨rfl, rfl, rfl⟩ := hcs
    rw [hE] at hel
    intro b off hx i hi j h5 hj
    injection hx with hx
    subst hx
    have h := hel i hi
    rw [List.getElem?_eq_getElem (by omega)] at h
    obtain ⟨cs, hcs, htr⟩ := Option.bind_eq_some_iff.1 h
    unfold World.cells? at hcs
    split at hcs
    · obtain ⟨u, hu, hcj⟩ := mapM_at _ _ _ hcs j j (List.getElem?_range hj)
      simp only [Go.WideShapes.add_plain] at hu
      rw [hu]
      obtain ⟨xs, n', _, _, _, hxl, hx⟩ := DataW.trod_struct he htr
      have hxl : xs.length = 5 := hxl
      have h3 := hx 3 f3 rfl
      have h4 := hx 4 f4 rfl
      rw [o3, c3] at h3
      rw [o4, c4] at h4
      have key : ∃ k m, cs[j]? = some (.int k m) := by
        by_cases e5 : j = 5
        · obtain ⟨m, hm⟩ := int_in u3 h3 (some_at (by omega))
          exact ⟨_, m, by rw [e5]; exact hm⟩
        · obtain ⟨y, hy⟩ := Option.isSome_iff_exists.1 (some_at (l := xs) (i := 4) (by omega))
          rw [hy] at h4
          obtain ⟨zs, n2, _, _, _, hzl, hz⟩ := DataW.trod_struct hs h4
          have hzl : zs.length = 5 := hzl
          have D : ∀ o, o < 36 → ((cs.drop 6).take 36)[o]? = cs[6 + o]? := fun o ho => by
            rw [List.getElem?_take, if_pos ho, List.getElem?_drop]
          have g0 := hz 0 s0 rfl
          have g1 := hz 1 s1 rfl
          have g2 := hz 2 s2 rfl
          have g3 := hz 3 s3 rfl
          have g4 := hz 4 s4 rfl
          rw [q0, z0] at g0; rw [q1, z1] at g1; rw [q2, z2] at g2; rw [q3, z3] at g3; rw [q4, z4] at g4
          by_cases e6 : j = 6
          · obtain ⟨m, hm⟩ := int_in y0 g0 (some_at (by omega))
            rw [D 0 (by omega)] at hm
            exact ⟨_, m, by rw [e6]; exact hm⟩
          · by_cases e7 : j = 7
            · obtain ⟨m, hm⟩ := int_in y1 g1 (some_at (by omega))
              rw [D 1 (by omega)] at hm
              exact ⟨_, m, by rw [e7]; exact hm⟩
            · by_cases e8 : j = 8
              · obtain ⟨m, hm⟩ := int_in y2 g2 (some_at (by omega))
                rw [D 2 (by omega)] at hm
                exact ⟨_, m, by rw [e8]; exact hm⟩
              · by_cases e9 : j = 9
                · obtain ⟨m, hm⟩ := int_in y3 g3 (some_at (by omega))
                  rw [D 3 (by omega)] at hm
                  exact ⟨_, m, by rw [e9]; exact hm⟩
                · obtain ⟨y', hy'⟩ := Option.isSome_iff_exists.1 (some_at (l := zs) (i := 4) (by omega))
                  rw [hy'] at g4
                  obtain ⟨ws, n3, _, _, _, hwl, hw⟩ := DataW.trod_array ha g4
                  have h10 := hw (j - 10) (by omega)
                  rw [ze, Nat.mul_one] at h10
                  obtain ⟨m, hm⟩ := int_in ye h10 (some_at (by omega))
                  rw [List.getElem?_take, if_pos (by omega), List.getElem?_drop, D (4 + (j - 10)) (by omega)] at hm
                  have ej : 6 + (4 + (j - 10)) = j := by omega
                  rw [ej] at hm
                  exact ⟨_, m, hm⟩
      obtain ⟨k, m, hk⟩ := key
      rw [hk] at hcj
      injection hcj with hcj
      exact ⟨k, m, by rw [hcj]⟩
    · cases hcs
end
end Go.Proofs.Ytapjebhdgcpdjaa
