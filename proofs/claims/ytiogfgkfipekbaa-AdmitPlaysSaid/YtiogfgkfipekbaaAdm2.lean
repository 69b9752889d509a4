/-
  Package admit: a gate with its table and its flows' data in memory; whether there is room for a packet, and whether it may come. Nothing turns below the heap's end. No condition but that New made it.
-/
import Derived.Test.YtiogfgkfipekbaaAdm1
namespace Go.Proofs.Ytiogfgkfipekbaa
set_option linter.unusedVariables false
set_option linter.unusedSimpArgs false
open Go.ChangeShapes Go.WideShapes Go.ChangeAt Go.RowKit
attribute [local go_sem] alloc_drewN setCell_drewN

/-- What waits of all flows together. -/
def sumD (g : Dt → Int) (es : List FeP) (ds : Int → Dt) : Int := es.foldr (fun e s => g (ds e.id) + s) 0
theorem sumD_nn (g : Dt → Int) (es : List FeP) (ds : Int → Dt) (h : ∀ e ∈ es, 0 ≤ g (ds e.id)) : 0 ≤ sumD g es ds := by
  induction es with
  | nil => exact Int.le_refl _
  | cons e es ih =>
    have := ih (fun x hx => h x (List.mem_cons_of_mem _ hx))
    have := h e List.mem_cons_self
    show 0 ≤ g (ds e.id) + sumD g es ds
    omega
theorem sumD_ge (g : Dt → Int) (es : List FeP) (ds : Int → Dt) (h : ∀ e ∈ es, 0 ≤ g (ds e.id)) : ∀ e ∈ es, g (ds e.id) ≤ sumD g es ds := by
  induction es with
  | nil => intro e he; cases he
  | cons x es ih =>
    intro e he
    have h1 := sumD_nn g es ds (fun y hy => h y (List.mem_cons_of_mem _ hy))
    have h2 := h x List.mem_cons_self
    show g (ds e.id) ≤ g (ds x.id) + sumD g es ds
    rcases List.mem_cons.1 he with rfl | he
    · omega
    · have := ih (fun y hy => h y (List.mem_cons_of_mem _ hy)) e he
      omega
def updD (ds : Int → Dt) (id : Int) (d : Dt) : Int → Dt := fun x => if x = id then d else ds x
theorem updD_at (ds : Int → Dt) (id : Int) (d : Dt) : updD ds id d id = d := if_pos rfl
theorem updD_ne (ds : Int → Dt) {id x : Int} (d : Dt) (h : x ≠ id) : updD ds id d x = ds x := if_neg h
theorem sumD_no (g : Dt → Int) (es : List FeP) (ds : Int → Dt) (id : Int) (d : Dt) (h : ∀ e ∈ es, e.id ≠ id) : sumD g es (updD ds id d) = sumD g es ds := by
  induction es with
  | nil => rfl
  | cons x es ih =>
    show g (updD ds id d x.id) + sumD g es (updD ds id d) = g (ds x.id) + sumD g es ds
    rw [updD_ne ds d (h x List.mem_cons_self), ih (fun e he => h e (List.mem_cons_of_mem _ he))]
theorem sumD_upd (g : Dt → Int) (es : List FeP) (ds : Int → Dt) (id : Int) (d : Dt) (hp : (es.map FeP.id).Pairwise (· < ·)) (h : ∃ e ∈ es, e.id = id) : sumD g es (updD ds id d) = sumD g es ds + (g d - g (ds id)) := by
  induction es with
  | nil => obtain ⟨e, he, -⟩ := h; cases he
  | cons x es ih =>
    rw [List.map_cons, List.pairwise_cons] at hp
    obtain ⟨h1, h2⟩ := hp
    show g (updD ds id d x.id) + sumD g es (updD ds id d) = g (ds x.id) + sumD g es ds + (g d - g (ds id))
    by_cases e : x.id = id
    · rw [e, updD_at, sumD_no g es ds id d (fun y hy => by have := h1 y.id (List.mem_map_of_mem hy); omega)]
      omega
    · rw [updD_ne ds d e, ih h2 (by
        obtain ⟨y, hy, hi⟩ := h
        rcases List.mem_cons.1 hy with rfl | hy
        · exact absurd hi e
        · exact ⟨y, hy, hi⟩)]
      omega
/-- A gate: its own block, its table, each flow's data in a block of its own. -/
structure AdAt (w : World) (base G T : Nat) (room : Int) (v : Value) (es : List FeP) (bl : Int → Nat) (ds : Int → Dt) (c : Gc) (tp tb : Int) : Prop where
  gk : GkAt w G T c tp tb
  tab : TbAtP w base T room v es
  dat : ∀ e ∈ es, e.x = some ⟨bl e.id, 0, none⟩ ∧ base ≤ bl e.id ∧ DtAt w (bl e.id) (ds e.id) ∧ (ds e.id).ok
  inj : ∀ e ∈ es, ∀ e' ∈ es, bl e.id = bl e'.id → e.id = e'.id
  low : base ≤ G
  cok : c.ok
  p0 : -9223372036854775808 ≤ tp
  p1 : tp ≤ 9223372036854775807
  b0 : 0 ≤ tb
  b1 : tb ≤ 18446744073709551615
  nn : ∀ e ∈ es, 0 ≤ (ds e.id).pk
  sp : tp = sumD Dt.pk es ds
  sb : tb = sumD Dt.by_ es ds
section
variable {w : World} {base G T : Nat} {room : Int} {v : Value} {es : List FeP} {bl : Int → Nat} {ds : Int → Dt} {c : Gc} {tp tb : Int}
theorem AdAt.below {w' : World} (h : AdAt w base G T room v es bl ds c tp tb) (hb : Below w.heap.size w w') : AdAt w' base G T room v es bl ds c tp tb :=
  ⟨(hb.block _ h.gk.lt).trans h.gk, h.tab.below hb, fun e he => ⟨(h.dat e he).1, (h.dat e he).2.1, (hb.block _ (h.dat e he).2.2.1.lt).trans (h.dat e he).2.2.1, (h.dat e he).2.2.2⟩, h.inj, h.low, h.cok, h.p0, h.p1, h.b0, h.b1, h.nn, h.sp, h.sb⟩
theorem entry_of {es : List FeP} {id : Int} (hf : isF (es.map FeP.id) id = true) : ∃ e ∈ es, e.id = id ∧ es.getD (lessC (es.map FeP.id) id) FeP.nil = e := by
  unfold isF at hf
  obtain ⟨h1, h2⟩ := Bool.and_eq_true_iff.1 hf
  have h1 := of_decide_eq_true h1
  have h2 := of_decide_eq_true h2
  rw [List.length_map] at h1
  rw [fid_getDP es _ h1] at h2
  rw [fe_getDP es _ h1] at h2 ⊢
  exact ⟨_, List.getElem_mem _, h2, rfl⟩
theorem AdAt.find (h : AdAt w base G T room v es bl ds c tp tb) {id : Int} (hf : isF (es.map FeP.id) id = true) : (es.getD (lessC (es.map FeP.id) id) FeP.nil).x = some ⟨bl id, 0, none⟩ ∧ DtAt w (bl id) (ds id) ∧ (ds id).ok := by
  obtain ⟨e, he, hi, hg⟩ := entry_of hf
  rw [hg]
  obtain ⟨a, -, b, d⟩ := h.dat e he
  rw [hi] at a b d
  exact ⟨a, b, d⟩
/-- Why there is no room for a packet; 0: there is. -/
def roomC (c : Gc) (f : Bool) (tp tb : Int) (d : Dt) (n : Int) : Int :=
  if n < 1 then 12 else if c.mtu < n then 12 else if f = false then 13 else if c.pk ≤ tp then 14 else if sub0 c.by_ tb < n then 15 else if sub0 d.most d.by_ < n then 16 else 0
set_option maxRecDepth 100000 in
set_option maxHeartbeats 2000000 in
theorem aroom (h : AdAt w base G T room v es bl ds c tp tb) (id n : Int) (n0 : 0 ≤ n) (n1 : n ≤ 18446744073709551615) : Calls Try.prog 56 #[.pointer (some ⟨G, 0, none⟩), .int .u32 id, .int .u64 n] w fun e w' => e = .returned (.tuple #[.pointer (if roomC c (isF (es.map FeP.id) id) tp tb (ds id) n = 0 then some ⟨bl id, 0, none⟩ else none), .int .i64 (roomC c (isF (es.map FeP.id) id) tp tb (ds id) n)]) ∧ Below w.heap.size w w' := by
  have MD := Lib.hid (amade h.gk)
  have HH := Lib.hid h
  obtain ⟨c0, c1, c2, c3, c4, c5, c6, -, -⟩ := h.gk.at
  obtain ⟨⟨k0, k1⟩, ⟨k2, k3⟩, ⟨k4, k5⟩, k6, k7⟩ := h.cok
  unfold roomC
  by_cases hn : n < 1
  · rw [if_pos hn, if_neg (by decide)]
    clear h
    go_enter Try.func56, Try.ntmps56
    go_wp2_with fail
    refine MD.out.mono ?_
    rintro e w' ⟨rfl, hw'⟩
    rw [hw']
    clear hw' 
    go_wp2
    go_ret2
    exact ⟨rfl, Below.refl _ _⟩
  · rw [if_neg hn]
    by_cases hm : c.mtu < n
    · rw [if_pos hm, if_neg (by decide)]
      clear h
      go_enter Try.func56, Try.ntmps56
      go_wp2_with fail
      refine MD.out.mono ?_
      rintro e w' ⟨rfl, hw'⟩
      rw [hw']
      clear hw' 
      go_wp2
      go_ret2
      exact ⟨rfl, Below.refl _ _⟩
    · rw [if_neg hm]
      by_cases hf : isF (es.map FeP.id) id = true
      · rw [hf, if_neg (show ¬ (true = false) from by decide)]
        obtain ⟨hx, hd, hk⟩ := h.find hf
        have GT := tget_atP h.tab id hf
        rw [hx] at GT
        have GTH := Lib.hid GT
        clear GT hx hf h
        by_cases hp : c.pk ≤ tp
        · rw [if_pos hp, if_neg (by decide)]
          have gp : decide (c.pk ≤ tp) = true := decide_eq_true hp
          go_enter Try.func56, Try.ntmps56
          go_wp2_with fail
          refine MD.out.mono ?_
          rintro e w' ⟨rfl, hw'⟩
          rw [hw']
          clear hw' 
          go_wp2_with fail
          refine GTH.out.mono ?_
          rintro e w1 ⟨rfl, b1_⟩
          have HB1 := Lib.hid b1_
          have H1 := Lib.hid (HH.out.below b1_)
          clear b1_ c0 c1 c2 c3 c4 c5 c6
          obtain ⟨c0, c1, c2, c3, c4, c5, c6, -, -⟩ := H1.out.gk.at
          go_wp2
          go_quiet (fail)
          go_wp2
          go_ret2
          exact ⟨rfl, below_drewN _ HB1.out⟩
        · rw [if_neg hp]
          have gp : decide (c.pk ≤ tp) = false := decide_eq_false hp
          have LF := Lib.hid (fun (u : World) (hu : Below w.heap.size w u) => aleft (HH.out.below hu).gk HH.out.cok HH.out.b0 HH.out.b1)
          by_cases hb : sub0 c.by_ tb < n
          · rw [if_pos hb, if_neg (by decide)]
            generalize sub0 c.by_ tb = l at *
            have gb : decide (l < n) = true := decide_eq_true hb
            go_enter Try.func56, Try.ntmps56
            go_wp2_with fail
            refine MD.out.mono ?_
            rintro e w' ⟨rfl, hw'⟩
            rw [hw']
            clear hw' 
            go_wp2_with fail
            refine GTH.out.mono ?_
            rintro e w1 ⟨rfl, b1_⟩
            have HB1 := Lib.hid b1_
            have H1 := Lib.hid (HH.out.below b1_)
            clear b1_ c0 c1 c2 c3 c4 c5 c6
            obtain ⟨c0, c1, c2, c3, c4, c5, c6, -, -⟩ := H1.out.gk.at
            go_wp2
            go_quiet (fail)
            generalize hw2 : w1.drewN nq = w2
            have HB2 := Lib.hid (show Below w.heap.size w w2 by rw [← hw2]; exact below_drewN _ HB1.out)
            have X2 := Lib.hid (show AdAt w2 base G T room v es bl ds c tp tb by rw [← hw2]; exact H1.out.below (below_drewN _ (Below.refl _ _)))
            clear hw2 c0 c1 c2 c3 c4 c5 c6
            go_wp2_with fail
            refine (LF.out _ HB2.out).mono ?_
            rintro e w3 ⟨rfl, q, hw3⟩
            have HB3 := Lib.hid (show Below w.heap.size w w3 by rw [hw3]; exact below_drewN _ HB2.out)
            clear hw3
            go_wp2
            go_ret2
            exact ⟨rfl, HB3.out⟩
          · rw [if_neg hb]
            generalize sub0 c.by_ tb = l at *
            have gb : decide (l < n) = false := decide_eq_false hb
            have SD := Lib.hid (fun W => (sat_sub (ds id).most (ds id).by_ hk.2.2.1 hk.2.2.2 hk.2.1.1 hk.2.1.2 W).mono (R' := fun e w' => e = .returned (.int .u64 (sub0 (ds id).most (ds id).by_)) ∧ w' = W) (by rintro e w' ⟨rfl, rfl⟩; exact ⟨rfl, rfl⟩))
            by_cases ho : sub0 (ds id).most (ds id).by_ < n
            · rw [if_pos ho, if_neg (by decide)]
              generalize sub0 (ds id).most (ds id).by_ = o at *
              have go_ : decide (o < n) = true := decide_eq_true ho
              go_enter Try.func56, Try.ntmps56
              go_wp2_with fail
              refine MD.out.mono ?_
              rintro e w' ⟨rfl, hw'⟩
              rw [hw']
              clear hw' 
              go_wp2_with fail
              refine GTH.out.mono ?_
              rintro e w1 ⟨rfl, b1_⟩
              have HB1 := Lib.hid b1_
              have H1 := Lib.hid (HH.out.below b1_)
              clear b1_ c0 c1 c2 c3 c4 c5 c6
              obtain ⟨c0, c1, c2, c3, c4, c5, c6, -, -⟩ := H1.out.gk.at
              go_wp2
              go_quiet (fail)
              generalize hw2 : w1.drewN nq = w2
              have HB2 := Lib.hid (show Below w.heap.size w w2 by rw [← hw2]; exact below_drewN _ HB1.out)
              have X2 := Lib.hid (show AdAt w2 base G T room v es bl ds c tp tb by rw [← hw2]; exact H1.out.below (below_drewN _ (Below.refl _ _)))
              clear hw2 c0 c1 c2 c3 c4 c5 c6
              go_wp2_with fail
              refine (LF.out _ HB2.out).mono ?_
              rintro e w3 ⟨rfl, q, hw3⟩
              have HB3 := Lib.hid (show Below w.heap.size w w3 by rw [hw3]; exact below_drewN _ HB2.out)
              clear hw3
              have DD : DtAt w3 (bl id) (ds id) := (HB3.out.block _ hd.lt).trans hd
              obtain ⟨d0, d1, d2, -, -⟩ := DD.at
              clear DD
              go_wp2
              go_quiet ((go_at_call 95; exact Calls.quiet_of_same (SD.out _)))
              go_wp2
              go_ret2
              exact ⟨rfl, below_drewN _ HB3.out⟩
            · rw [if_neg ho, if_pos rfl]
              generalize sub0 (ds id).most (ds id).by_ = o at *
              have go_ : decide (o < n) = false := decide_eq_false ho
              go_enter Try.func56, Try.ntmps56
              go_wp2_with fail
              refine MD.out.mono ?_
              rintro e w' ⟨rfl, hw'⟩
              rw [hw']
              clear hw' 
              go_wp2_with fail
              refine GTH.out.mono ?_
              rintro e w1 ⟨rfl, b1_⟩
              have HB1 := Lib.hid b1_
              have H1 := Lib.hid (HH.out.below b1_)
              clear b1_ c0 c1 c2 c3 c4 c5 c6
              obtain ⟨c0, c1, c2, c3, c4, c5, c6, -, -⟩ := H1.out.gk.at
              go_wp2
              go_quiet (fail)
              generalize hw2 : w1.drewN nq = w2
              have HB2 := Lib.hid (show Below w.heap.size w w2 by rw [← hw2]; exact below_drewN _ HB1.out)
              have X2 := Lib.hid (show AdAt w2 base G T room v es bl ds c tp tb by rw [← hw2]; exact H1.out.below (below_drewN _ (Below.refl _ _)))
              clear hw2 c0 c1 c2 c3 c4 c5 c6
              go_wp2_with fail
              refine (LF.out _ HB2.out).mono ?_
              rintro e w3 ⟨rfl, q, hw3⟩
              have HB3 := Lib.hid (show Below w.heap.size w w3 by rw [hw3]; exact below_drewN _ HB2.out)
              clear hw3
              have DD : DtAt w3 (bl id) (ds id) := (HB3.out.block _ hd.lt).trans hd
              obtain ⟨d0, d1, d2, -, -⟩ := DD.at
              clear DD
              go_wp2
              go_quiet ((go_at_call 95; exact Calls.quiet_of_same (SD.out _)))
              go_wp2
              go_ret2
              exact ⟨rfl, below_drewN _ HB3.out⟩
      · rw [Bool.not_eq_true] at hf
        rw [hf, if_pos (rfl : false = false), if_neg (show ¬ ((13 : Int) = 0) from by decide)]
        have GTH := Lib.hid (tget_noP h.tab id hf)
        clear h hf
        go_enter Try.func56, Try.ntmps56
        go_wp2_with fail
        refine MD.out.mono ?_
        rintro e w' ⟨rfl, hw'⟩
        rw [hw']
        clear hw' 
        go_wp2_with fail
        refine GTH.out.mono ?_
        rintro e w1 ⟨rfl, b1_⟩
        have HB1 := Lib.hid b1_
        have H1 := Lib.hid (HH.out.below b1_)
        clear b1_ c0 c1 c2 c3 c4 c5 c6
        go_wp2
        go_ret2
        exact ⟨rfl, HB1.out⟩
end
end Go.Proofs.Ytiogfgkfipekbaa
