/-
  Texts joined, by package digits. What lay below the heap's end stands. No condition but that the whole is short.
-/
import Derived.Test.YtdeehklegeeanaaDoorDigRef3
import Derived.Test.YtdeehklegeeanaaDoorShelf
import Derived.Lib.Join
namespace Go.Proofs.YtdeehklegeeanaaDoor
set_option linter.unusedVariables false
set_option linter.unusedSimpArgs false
open Go.ChangeShapes Go.WideShapes Go.ChangeAt Go.RowKit

theorem data_append_list (a b : ByteArray) : (a ++ b).data.toList = a.data.toList ++ b.data.toList := by rw [ByteArray.data_append, Array.toList_append]
theorem jn_list (x : ByteArray) (r : List ByteArray) : ∀ k, k ≤ r.length → (jn (x :: r) (k + 1)).data.toList = x.data.toList ++ Lib.joinTail [32] ((r.take k).map (·.data.toList))
  | 0, _ => by
    show (⟨#[]⟩ ++ x : ByteArray).data.toList = _
    rw [data_append_list]
    simp [Lib.joinTail]
  | k + 1, h => by
    have ih := jn_list x r k (by omega)
    have e : jn (x :: r) (k + 1 + 1) = jn (x :: r) (k + 1) ++ ⟨#[32]⟩ ++ (x :: r).getD (k + 1) ByteArray.empty := by
      show (if 0 < k + 1 then _ else _) ++ _ = _
      rw [if_pos (by omega)]
    have hg : (x :: r).getD (k + 1) ByteArray.empty = r[k] := by
      rw [List.getD_eq_getElem?_getD, List.getElem?_cons_succ, List.getElem?_eq_getElem (by omega)]; rfl
    rw [e, data_append_list, data_append_list, ih, hg]
    have hj := Lib.joinTail_take_succ [32] (r.map (·.data.toList)) k (r[k]).data.toList (by rw [List.getElem?_map, List.getElem?_eq_getElem (by omega)]; rfl)
    rw [← List.map_take, ← List.map_take] at hj
    rw [hj]
    simp [List.append_assoc]
theorem jn_join (ss : List ByteArray) : (⟨(Lib.join (ss.map (·.data.toList)) (⟨#[32]⟩ : ByteArray).data.toList).toArray⟩ : ByteArray) = jn ss ss.length := by
  apply ByteArray.ext
  apply Array.toList_inj.1
  show (Lib.join (ss.map (·.data.toList)) [32]) = _
  cases ss with
  | nil => rfl
  | cons x r =>
    have := jn_list x r r.length (Nat.le_refl _)
    rw [List.take_of_length_le (by simp)] at this
    show _ = (jn (x :: r) (r.length + 1)).data.toList
    rw [this, List.map_cons, Lib.join_cons]
theorem join_at (b off c : Nat) (ss : List ByteArray) (hl : ln ss ss.length ≤ 1000000) (hn : ss.length ≤ 1000000) (hcap : ss.length ≤ c) (w : World) (hb : b < w.heap.size) (hc : SCells w b off ss) :
    Calls Tryd.prog 21 #[.slice (some ⟨b, off, none⟩) ss.length c] w fun e w' => e = .returned (.string (jn ss ss.length)) ∧ Below w.heap.size w w' := by
  have hz := jn_size ss ss.length
  have hlen : (Lib.join (ss.map (·.data.toList)) (⟨#[32]⟩ : ByteArray).data.toList).length ≤ 140737488355328 := by
    have h := congrArg ByteArray.size (jn_join ss)
    have e : (⟨(Lib.join (ss.map (·.data.toList)) (⟨#[32]⟩ : ByteArray).data.toList).toArray⟩ : ByteArray).size = (Lib.join (ss.map (·.data.toList)) (⟨#[32]⟩ : ByteArray).data.toList).length := by
      show (Lib.join (ss.map (·.data.toList)) (⟨#[32]⟩ : ByteArray).data.toList).toArray.size = _
      simp
    rw [e] at h
    omega
  have JN := Lib.hid (Tryd.strings_Join b off c ss ⟨#[32]⟩ w (fun j x hj => by
    have hlt := (List.getElem?_eq_some_iff.1 hj).1
    have := hc j hlt
    rw [List.getD_eq_getElem?_getD, hj] at this
    exact this) hb (by omega) hcap hlen)
  rw [jn_join] at JN
  go_enter Tryd.func21, Tryd.ntmps21
  go_wp2_with fail
  refine JN.out.mono ?_
  rintro e w1 ⟨rfl, h1⟩
  go_wp2
  go_ret
  exact ⟨rfl, h1⟩
theorem join_none (a : Option Addr) (c : Nat) (w : World) :
    Calls Tryd.prog 21 #[.slice a 0 c] w fun e w' => e = .returned (.string ⟨#[]⟩) ∧ Below w.heap.size w w' := by
  go_enter Tryd.func21, Tryd.ntmps21
  go_wp2_with fail
  refine (Tryd.strings_Join_none a c ⟨#[32]⟩ _).mono ?_
  rintro e w1 ⟨rfl, rfl⟩
  go_wp2
  go_ret
  exact ⟨rfl, Below.refl _ _⟩
end Go.Proofs.YtdeehklegeeanaaDoor
