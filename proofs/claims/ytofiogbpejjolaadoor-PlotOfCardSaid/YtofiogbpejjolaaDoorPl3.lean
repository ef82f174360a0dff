/-
  Layer 13 (plot): contracts of Of, ends, part, Where (program).
  Conditions: those that each theorem states.
-/
import Derived.Test.YtofiogbpejjolaaDoorPl2
import Derived.Deep.RegionHeld3
namespace Go.Proofs.YtofiogbpejjolaaDoor
open Go.ChangeShapes Go.WideShapes Go.ChangeAt Go.RowKit

def ofOk (c r b f t : Int) : Prop := okConf c r b ∧ okPair c f t

instance (c r b f t : Int) : Decidable (ofOk c r b f t) := by unfold ofOk; infer_instance

def ofB (c r b f t : Int) : Int := if ofOk c r b f t then rankP c f t * (4 + 11 * r) else 0

def ofR (c r b f t : Int) : Int := if ofOk c r b f t then r else 0

/-- Whatever a cell holds. -/
def heldV (W : World) (a : Addr) : Value := (W.cell? a).getD undef

theorem heldV_of {W : World} {a : Addr} (h : ∃ v, W.cell? a = some v) : W.cell? a = some (heldV W a) := by
  obtain ⟨v, hv⟩ := h
  unfold heldV
  rw [hv]
  rfl

/-- What Of keeps in its last statement: the configuration's box at P, the result's cells behind it. -/
structure OfT (w1 : World) (P : Nat) (c r b : Int) (W : World) : Prop where
  conf : Row W P 23 [.int .i64 c, .int .i64 r, .int .i64 b]
  res : ∃ x y, Row W (P + 1) 25 [x, y]
  only : Only (· = P + 1) w1 W

theorem OfT.cells {w1 W : World} {P : Nat} {c r b : Int} (h : OfT w1 P c r b W) :
    W.cell? ⟨P, 0, none⟩ = some (.int .i64 c) ∧ W.cell? ⟨P, 1, none⟩ = some (.int .i64 r) ∧ W.cell? ⟨P + 1, 0, none⟩ = some (heldV W ⟨P + 1, 0, none⟩) ∧ W.cell? ⟨P + 1, 1, none⟩ = some (heldV W ⟨P + 1, 1, none⟩) ∧ W.frozen? ⟨P + 1, 0, none⟩ = false ∧ W.frozen? ⟨P + 1, 1, none⟩ = false ∧ P + 1 < W.heap.size ∧ OfT w1 P c r b W := by
  obtain ⟨x, y, hr⟩ := h.res
  exact ⟨h.conf.cell 0, h.conf.cell 1, heldV_of ⟨_, hr.cell 0⟩, heldV_of ⟨_, hr.cell 1⟩, hr.soft 0, hr.soft 1, hr.lt, h⟩

theorem OfT.drew {w1 W : World} {P : Nat} {c r b : Int} (h : OfT w1 P c r b W) : OfT w1 P c r b W.drew := ⟨h.conf, h.res, h.only.drew⟩

theorem OfT.put2 {w1 W : World} {P : Nat} {c r b : Int} (h : OfT w1 P c r b W) (u v : Value) : OfT w1 P c r b ((W.setCell ⟨P + 1, 0, none⟩ u).setCell ⟨P + 1, 1, none⟩ v) := by
  obtain ⟨x, y, hr⟩ := h.res
  exact ⟨(h.conf.far (p := ⟨P + 1, 0, none⟩) (by show P ≠ P + 1; omega) u).far (p := ⟨P + 1, 1, none⟩) (by show P ≠ P + 1; omega) v, ⟨_, _, (hr.put 0 u).put 1 v⟩, (h.only.setCell (p := ⟨P + 1, 0, none⟩) (Or.inl rfl) u).setCell (p := ⟨P + 1, 1, none⟩) (Or.inl rfl) v⟩

theorem OfT.got {w1 W : World} {P : Nat} {c r b : Int} (h : OfT w1 P c r b W) (u v : Value) :
    ((W.setCell ⟨P + 1, 0, none⟩ u).setCell ⟨P + 1, 1, none⟩ v).cell? ⟨P + 1, 0, none⟩ = some u ∧ ((W.setCell ⟨P + 1, 0, none⟩ u).setCell ⟨P + 1, 1, none⟩ v).cell? ⟨P + 1, 1, none⟩ = some v := by
  obtain ⟨x, y, hr⟩ := h.res
  have r2 := (hr.put 0 u).put 1 v
  exact ⟨r2.cell 0, r2.cell 1⟩

theorem OfT.fin {w w1 W : World} {P : Nat} {c r b : Int} (h : OfT w1 P c r b W) (hP : w.heap.size = P) (hb : Below P w w1) (u v : Value) : Below P w ((W.setCell ⟨P + 1, 0, none⟩ u).setCell ⟨P + 1, 1, none⟩ v) :=
  Only.below hb (h.put2 u v).only (hP ▸ hb.size) (fun g hg e => by omega)

theorem sinceOf {f : Nat} {args : Array Value} {v : Value} (h : ∀ W, Calls Tryd.prog f args W fun e w' => e = .returned v ∧ W = w') (w1 W : World) {P : Nat} {c r b : Int} (hb : OfT w1 P c r b W) :
    Calls Tryd.prog f args W fun e w' => e = .returned v ∧ OfT w1 P c r b w' :=
  (h W).mono fun _ _ ⟨he, hw⟩ => ⟨he, hw ▸ hb⟩

theorem row13 (w : World) (ty : TypeId) (cs : Array Value) : Row (w.alloc (.cells cs ty)) w.heap.size ty cs.toList := Row.new w ty cs

set_option maxRecDepth 100000 in
set_option maxHeartbeats 2000000 in
theorem of13_any (c r b f t : Int) (w : World) :
    Calls Tryd.prog 8 #[cfV c r b, .int .i64 f, .int .i64 t] w fun e w' => e = .returned (.tuple #[plV (ofB c r b f t) (ofR c r b f t), .bool (decide (ofOk c r b f t))]) ∧ Below w.heap.size w w' := by
  have RT := Lib.hid (right13_any c r b)
  have HN := Lib.hid (fun W (hb : Below ((w.alloc (.cells #[.int .i64 c, .int .i64 r, .int .i64 b] 23)).alloc (.cells #[.int .i64 0, .int .i64 0] 25)).heap.size ((w.alloc (.cells #[.int .i64 c, .int .i64 r, .int .i64 b] 23)).alloc (.cells #[.int .i64 0, .int .i64 0] 25)) W) =>
    (show Row W w.heap.size 23 [.int .i64 c, .int .i64 r, .int .i64 b] ∧ Row W (w.heap.size + 1) 25 [.int .i64 0, .int .i64 0] ∧ Below w.heap.size w W from
      ⟨((row13 w 23 #[.int .i64 c, .int .i64 r, .int .i64 b]).below (below_al _ _)).below hb, by simpa using (row13 (w.alloc (.cells #[.int .i64 c, .int .i64 r, .int .i64 b] 23)) 25 #[.int .i64 0, .int .i64 0]).below hb, below_on (below_on (below_al _ _) (below_al _ _)) hb⟩))
  unfold plV
  unfold cfV at RT ⊢
  obtain ⟨o0, ho0⟩ : ∃ o, decide (okConf c r b) = o := ⟨_, rfl⟩
  obtain ⟨o1, ho1⟩ : ∃ o, decide (0 ≤ f ∧ f < c) = o := ⟨_, rfl⟩
  obtain ⟨o2, ho2⟩ : ∃ o, decide (0 ≤ t ∧ t < c) = o := ⟨_, rfl⟩
  obtain ⟨o3, ho3⟩ : ∃ o, decide (f = t) = o := ⟨_, rfl⟩
  obtain ⟨o, ho⟩ : ∃ o, decide (ofOk c r b f t) = o := ⟨_, rfl⟩
  have hoo : o = (o0 && o1 && o2 && !o3) := by
    rw [← ho0, ← ho1, ← ho2, ← ho3, ← ho]
    unfold ofOk okPair
    by_cases k0 : okConf c r b <;> by_cases k1 : 0 ≤ f ∧ f < c <;> by_cases k2 : 0 ≤ t ∧ t < c <;> by_cases k3 : f = t <;> simp [k0, k1, k2, k3] <;> omega
  have hB : o = false → ofB c r b f t = 0 ∧ ofR c r b f t = 0 := by
    rintro rfl
    have hn := of_decide_eq_false ho
    exact ⟨if_neg hn, if_neg hn⟩
  have hY : o = true → ofB c r b f t = rankP c f t * (4 + 11 * r) ∧ ofR c r b f t = r ∧ okConf c r b ∧ okPair c f t := by
    rintro rfl
    have hn := of_decide_eq_true ho
    exact ⟨if_pos hn, if_pos hn, hn.1, hn.2⟩
  have teq : (f == t) = o3 := by rw [← ho3]; by_cases k3 : f = t <;> simp [k3]
  have W0 := Lib.hid ho0
  have W1 := Lib.hid ho1
  have W2 := Lib.hid ho2
  rw [ho]
  clear ho ho0 ho1 ho2 ho3
  cases o0
  · obtain rfl : o = false := by rw [hoo]; rfl
    clear hoo
    obtain ⟨hB0, hR0⟩ := hB (by simp)
    rw [hB0, hR0]
    clear hB hY hB0 hR0
    go_enter Tryd.func8, Tryd.ntmps8
    go_wp2_with fail
    refine (RT.out _).mono ?_
    rintro e w1 ⟨rfl, hb1⟩
    rw [W0.out]
    obtain ⟨r1, r2, hb⟩ := HN.out _ hb1
    have c0 := r1.cell 0
    have d0 := r2.cell 0
    have d1 := r2.cell 1
    simp only [List.getElem?_cons_zero, List.getElem?_cons_succ] at c0 d0 d1
    have hlt := r2.lt
    have f0 := r2.soft 0
    have f1 := r2.soft 1
    have HR := Lib.hid r2
    have HB := Lib.hid hb
    clear r1 r2 hb hb1
    go_wp2
    exact bodyPost_ret (v := .tuple #[.agg #[.int .i64 0, .int .i64 0], .bool false]) (by simp [results, Tryd.results8, go_sem, *]) rfl ⟨rfl, HB.out.trans (by go_grown)⟩
  cases o1
  · obtain rfl : o = false := by rw [hoo]; rfl
    clear hoo
    obtain ⟨hB0, hR0⟩ := hB (by simp)
    rw [hB0, hR0]
    clear hB hY hB0 hR0
    go_enter Tryd.func8, Tryd.ntmps8
    go_wp2_with fail
    refine (RT.out _).mono ?_
    rintro e w1 ⟨rfl, hb1⟩
    rw [W0.out]
    obtain ⟨r1, r2, hb⟩ := HN.out _ hb1
    have c0 := r1.cell 0
    have d0 := r2.cell 0
    have d1 := r2.cell 1
    simp only [List.getElem?_cons_zero, List.getElem?_cons_succ] at c0 d0 d1
    have hlt := r2.lt
    have f0 := r2.soft 0
    have f1 := r2.soft 1
    have HR := Lib.hid r2
    have HB := Lib.hid hb
    clear r1 r2 hb hb1
    go_wp2_with fail
    refine (below13_any _ _ _).mono ?_
    rintro e w' ⟨rfl, rfl⟩
    rw [W1.out]
    go_wp2
    exact bodyPost_ret (v := .tuple #[.agg #[.int .i64 0, .int .i64 0], .bool false]) (by simp [results, Tryd.results8, go_sem, *]) rfl ⟨rfl, HB.out.trans (by go_grown)⟩
  cases o2
  · obtain rfl : o = false := by rw [hoo]; rfl
    clear hoo
    obtain ⟨hB0, hR0⟩ := hB (by simp)
    rw [hB0, hR0]
    clear hB hY hB0 hR0
    go_enter Tryd.func8, Tryd.ntmps8
    go_wp2_with fail
    refine (RT.out _).mono ?_
    rintro e w1 ⟨rfl, hb1⟩
    rw [W0.out]
    obtain ⟨r1, r2, hb⟩ := HN.out _ hb1
    have c0 := r1.cell 0
    have d0 := r2.cell 0
    have d1 := r2.cell 1
    simp only [List.getElem?_cons_zero, List.getElem?_cons_succ] at c0 d0 d1
    have hlt := r2.lt
    have f0 := r2.soft 0
    have f1 := r2.soft 1
    have HR := Lib.hid r2
    have HB := Lib.hid hb
    clear r1 r2 hb hb1
    go_wp2_with fail
    refine (below13_any _ _ _).mono ?_
    rintro e w' ⟨rfl, rfl⟩
    rw [W1.out]
    go_wp2_with fail
    refine (below13_any _ _ _).mono ?_
    rintro e w' ⟨rfl, rfl⟩
    rw [W2.out]
    go_wp2
    exact bodyPost_ret (v := .tuple #[.agg #[.int .i64 0, .int .i64 0], .bool false]) (by simp [results, Tryd.results8, go_sem, *]) rfl ⟨rfl, HB.out.trans (by go_grown)⟩
  cases o3
  · obtain rfl : o = true := by rw [hoo]; rfl
    obtain ⟨hB0, hR0, hC, hP⟩ := hY rfl
    rw [hB0, hR0]
    have hc : 2 ≤ c ∧ c ≤ 8 := ⟨hC.1, hC.2.1⟩
    have hr := hC.2.2.1.bd
    have hpb := pairs_bd hc
    have hrb := rank_bd hc hP
    have e1 : sizeP r = 4 + 11 * r := if_pos hC.2.2.1
    have RK := Lib.hid (fun W => rank13_any c f t hc hP W)
    have SZ := Lib.hid (fun W => size13_any r W)
    rw [e1] at SZ
    obtain ⟨n, hn⟩ : ∃ n, rankP c f t = n := ⟨_, rfl⟩
    obtain ⟨s, hs⟩ : ∃ s, 4 + 11 * r = s := ⟨_, rfl⟩
    rw [hs] at SZ ⊢
    rw [hn] at RK hrb ⊢
    have hsb : 26 ≤ s ∧ s ≤ 708 := by omega
    have hm : 0 ≤ n * s ∧ n * s ≤ 100000 := ⟨Int.mul_nonneg hrb.1 (by omega), Int.le_trans (Int.mul_le_mul (show n ≤ 56 by omega) hsb.2 (by omega) (by omega)) (by omega)⟩
    obtain ⟨m, em⟩ : ∃ m, n * s = m := ⟨_, rfl⟩
    rw [em] at hm ⊢
    obtain ⟨hm1, hm2⟩ := hm
    clear hB hY hB0 hR0 hC hP hc hpb hrb hoo hn hs hsb e1
    go_enter Tryd.func8, Tryd.ntmps8
    go_wp2_with fail
    refine (RT.out _).mono ?_
    rintro e w1 ⟨rfl, hb1⟩
    rw [W0.out]
    obtain ⟨r1, r2, hb⟩ := HN.out _ hb1
    have c0 := r1.cell 0
    have c1 := r1.cell 1
    have d0 := r2.cell 0
    have d1 := r2.cell 1
    simp only [List.getElem?_cons_zero, List.getElem?_cons_succ] at c0 c1 d0 d1
    have hlt := r2.lt
    have f0 := r2.soft 0
    have f1 := r2.soft 1
    have HR := Lib.hid r2
    have HR1 := Lib.hid r1
    have HB := Lib.hid hb
    clear r1 r2 hb hb1 RT HN
    go_wp2_with fail
    refine (below13_any _ _ _).mono ?_
    rintro e w' ⟨rfl, rfl⟩
    rw [W1.out]
    go_wp2_with fail
    refine (below13_any _ _ _).mono ?_
    rintro e w' ⟨rfl, rfl⟩
    rw [W2.out]
    have HM := Lib.hid (show IntKind.i64.wrap m = m from by simp only [IntKind.wrap_i64]; omega)
    have HO := Lib.hid (show OfT w1 w.heap.size c r b w1 from ⟨HR1.out, ⟨_, _, HR.out⟩, Only.refl _ _⟩)
    clear hlt f0 f1 d0 d1 hm1 hm2
    go_wp2
    have ht0 := HO.out
    obtain ⟨k0, k1, k2, k3, k4, k5, k6, -⟩ := ht0.cells
    generalize hPP : w.heap.size = P at *
    go_region_held3 (fun W => W.cell? ⟨P, 0, none⟩ = some (.int .i64 c) ∧ W.cell? ⟨P, 1, none⟩ = some (.int .i64 r) ∧ W.cell? ⟨P + 1, 0, none⟩ = some (heldV W ⟨P + 1, 0, none⟩) ∧ W.cell? ⟨P + 1, 1, none⟩ = some (heldV W ⟨P + 1, 1, none⟩) ∧ W.frozen? ⟨P + 1, 0, none⟩ = false ∧ W.frozen? ⟨P + 1, 1, none⟩ = false ∧ P + 1 < W.heap.size ∧ OfT w1 P c r b W)
      (first | exact (ht2.put2 _ _).cells | exact (ht1.put2 _ _).cells | exact ht2.drew.cells | exact ht1.drew.cells | exact ht2.cells | exact ht1.cells | exact ht0.drew.cells | exact ht0.cells | go_keep)
      (first
        | (go_at_call 22; refine (sinceOf RK.out w1 _ (P := P) (c := c) (r := r) (b := b) ?_).mono ?_; (go_split_ands; assumption); rintro e w2 ⟨rfl, ht1⟩)
        | (go_at_call 12; refine (sinceOf SZ.out w1 _ (P := P) (c := c) (r := r) (b := b) ?_).mono ?_; (go_split_ands; assumption); rintro e w3 ⟨rfl, ht2⟩))
    obtain ⟨q0, q1⟩ := ht2.got (.int .i64 m) (.int .i64 r)
    have hfin := ht2.fin hPP HB.out (.int .i64 m) (.int .i64 r)
    rw [HM.out]
    subst hPP
    clear c0 c1 k0 k1 k2 k3 k4 k5 k6 ht0 ht1 ht2 HO HR HR1 HB
    go_wp2
    exact bodyPost_ret (v := .tuple #[.agg #[.int .i64 m, .int .i64 r], .bool true]) (by simp [results, Tryd.results8, go_sem, q0, q1]) rfl ⟨rfl, hfin⟩
  · obtain rfl : o = false := by rw [hoo]; rfl
    clear hoo
    obtain ⟨hB0, hR0⟩ := hB (by simp)
    rw [hB0, hR0]
    clear hB hY hB0 hR0
    go_enter Tryd.func8, Tryd.ntmps8
    go_wp2_with fail
    refine (RT.out _).mono ?_
    rintro e w1 ⟨rfl, hb1⟩
    rw [W0.out]
    obtain ⟨r1, r2, hb⟩ := HN.out _ hb1
    have c0 := r1.cell 0
    have d0 := r2.cell 0
    have d1 := r2.cell 1
    simp only [List.getElem?_cons_zero, List.getElem?_cons_succ] at c0 d0 d1
    have hlt := r2.lt
    have f0 := r2.soft 0
    have f1 := r2.soft 1
    have HR := Lib.hid r2
    have HB := Lib.hid hb
    clear r1 r2 hb hb1
    go_wp2_with fail
    refine (below13_any _ _ _).mono ?_
    rintro e w' ⟨rfl, rfl⟩
    rw [W1.out]
    go_wp2_with fail
    refine (below13_any _ _ _).mono ?_
    rintro e w' ⟨rfl, rfl⟩
    rw [W2.out]
    go_wp2
    exact bodyPost_ret (v := .tuple #[.agg #[.int .i64 0, .int .i64 0], .bool false]) (by simp [results, Tryd.results8, go_sem, *]) rfl ⟨rfl, HB.out.trans (by go_grown)⟩

#print axioms of13_any
end Go.Proofs.YtofiogbpejjolaaDoor
