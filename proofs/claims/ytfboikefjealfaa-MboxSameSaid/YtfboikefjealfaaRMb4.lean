/-
  The reference of layer 9: Ring.
  Conditions: those that each theorem states.
-/
import Derived.Test.YtfboikefjealfaaRMb3
import Derived.Deep.DeepMust
namespace Go.Proofs.Ytfboikefjealfaa
open Go.ChangeShapes Go.WideShapes Go.ChangeAt Go.RowKit

/-- A store of a bool into a block known whole, at any place. -/
theorem putB_walk {w : World} {ops : Array Oper} {rest : List Oper} {o : Oper} {a : Act} {Q : Exit → Act → World → Prop} (hgd : o.guard = none) (x y : Operand) (ho : o.op = .store 4 x y) (g i : Nat) (hx : a.eval x = .pointer (some ⟨g, i, none⟩)) (b : Bool) (hy : a.eval y = .bool b)
    (t : TypeId) (cs : List Value) (hg : Row w g t cs) (hi : i < cs.length) (h : ∀ w', Row w' g t (cs.set i (.bool b)) → Only (fun k => k = g) w w' → w'.heap.size = w.heap.size → wpList Try.prog ops Q rest (a.put o.dst undef) w') : wpList Try.prog ops Q (o :: rest) a w := by
  refine wpList_plain hgd fun K hK => ?_
  have hc : w.cell? ⟨g, i, none⟩ = some cs[i] := by rw [hg.cell, List.getElem?_eq_getElem hi]
  have hf := hg.soft i
  have a3 := Try.isAgg4
  have z3 := Try.sizeOf4
  unfold Oper.wp execOp
  simp only [ho, hx, hy]
  simp [go_sem, hc, hf]
  exact hK _ _ (h _ (hg.put i _) (only_put w g i _) (by simp [World.setCell]))

set_option maxRecDepth 100000 in
set_option maxHeartbeats 1000000 in
theorem rring9_core (P : Nat → Prop) (ms : List Mail) (v : Value) (f t x : Int) (w : World) (r : RBox w P ms v) (h : ¬ (cIs ms.length f = true ∧ cIs ms.length t = true)) :
    Calls Try.prog 22 #[v, .int .i64 f, .int .i64 t, .int .i64 x] w (RBoxP P ms (fun b => .tuple #[b, .int .i64 3]) w) := by
  obtain ⟨A, k, rfl⟩ := r.open_
  have H1 := Lib.hid (rhas9 A ms.length k f w)
  have H2 := Lib.hid (rhas9 A ms.length k t w)
  have R := Lib.hid r
  have hm := r.most
  obtain ⟨C, hC⟩ : ∃ C, ms.length = C := ⟨_, rfl⟩
  rw [hC] at H1 H2 h hm ⊢
  have HC := Lib.hid hC
  clear r hC
  by_cases hf : cIs C f = true
  · have ht : cIs C t = false := by
      cases hh : cIs C t
      · rfl
      · exact absurd ⟨hf, hh⟩ h
    rw [hf] at H1
    rw [ht] at H2
    clear h hf ht
    go_enter Try.func22, Try.ntmps22
    go_wp2_with fail
    refine H1.out.mono ?_
    rintro e w' ⟨rfl, rfl⟩
    go_wp2_with fail
    refine H2.out.mono ?_
    rintro e w' ⟨rfl, rfl⟩
    go_wp2
    go_ret2
    exact ⟨A, C, k, rfl, by have := R.out; rwa [HC.out] at this, Below.refl _ _⟩
  · have hf' : cIs C f = false := by simpa using hf
    rw [hf'] at H1
    clear h hf hf' H2
    go_enter Try.func22, Try.ntmps22
    go_wp2_with fail
    refine H1.out.mono ?_
    rintro e w' ⟨rfl, rfl⟩
    go_wp2
    go_ret2
    exact ⟨A, C, k, rfl, by have := R.out; rwa [HC.out] at this, Below.refl _ _⟩

set_option maxRecDepth 100000 in
set_option maxHeartbeats 1000000 in
theorem rring9_word (P : Nat → Prop) (ms : List Mail) (v : Value) (f t x : Int) (w : World) (r : RBox w P ms v) (hf : cIs ms.length f = true) (ht : cIs ms.length t = true) (hx : okW x = false) :
    Calls Try.prog 22 #[v, .int .i64 f, .int .i64 t, .int .i64 x] w (RBoxP P ms (fun b => .tuple #[b, .int .i64 2]) w) := by
  obtain ⟨A, k, rfl⟩ := r.open_
  have H1 := Lib.hid (rhas9 A ms.length k f w)
  have H2 := Lib.hid (rhas9 A ms.length k t w)
  have R := Lib.hid r
  obtain ⟨C, hC⟩ : ∃ C, ms.length = C := ⟨_, rfl⟩
  rw [hC] at H1 H2 hf ht ⊢
  have HC := Lib.hid hC
  rw [hf] at H1
  rw [ht] at H2
  clear r hC hf ht
  have hx' := okW_no hx
  clear hx
  by_cases h0 : x < 0
  · clear hx'
    go_enter Try.func22, Try.ntmps22
    go_wp2_with fail
    refine H1.out.mono ?_
    rintro e w' ⟨rfl, rfl⟩
    go_wp2_with fail
    refine H2.out.mono ?_
    rintro e w' ⟨rfl, rfl⟩
    go_wp2
    go_ret2
    exact ⟨A, C, k, rfl, by have := R.out; rwa [HC.out] at this, Below.refl _ _⟩
  · have h1 : 65535 < x := by omega
    clear hx'
    go_enter Try.func22, Try.ntmps22
    go_wp2_with fail
    refine H1.out.mono ?_
    rintro e w' ⟨rfl, rfl⟩
    go_wp2_with fail
    refine H2.out.mono ?_
    rintro e w' ⟨rfl, rfl⟩
    go_wp2
    go_ret2
    exact ⟨A, C, k, rfl, by have := R.out; rwa [HC.out] at this, Below.refl _ _⟩

/-- A core's cells, written out. -/
theorem rcL_lit {m : Mail} {b0 b1 b2 b3 b4 b5 b6 b7 : Bool} (h : m.1 = [b0, b1, b2, b3, b4, b5, b6, b7]) (lv : Value) : rcL m lv = [.bool b0, .bool b1, .bool b2, .bool b3, .bool b4, .bool b5, .bool b6, .bool b7, lv] := by unfold rcL; rw [h]; rfl
theorem rcL_set {m : Mail} (hk : MailOk m) {f : Nat} (hf : f < 8) (b : Bool) (q : List (Int × Int)) (lv : Value) : (rcL m lv).set f (.bool b) = rcL (m.1.set f b, q) lv := by
  unfold rcL
  rw [List.set_append_left _ _ (by rw [List.length_map, hk.len]; exact hf), List.map_set]

set_option maxRecDepth 100000 in
set_option maxHeartbeats 4000000 in
theorem rring9_full (P : Nat → Prop) (ms : List Mail) (v : Value) (f i : Nat) (m : Mail) (x : Int) (w : World) (r : RBox w P ms v) (hf : f < ms.length) (hm : ms[i]? = some m) (hx : okW x = true) (hq : m.2.length = 16) (hP : ∀ b, w.heap.size ≤ b → P b) :
    Calls Try.prog 22 #[v, .int .i64 (f : Int), .int .i64 (i : Int), .int .i64 x] w (RBoxP P (ms.set i (m.1.set f true, m.2)) (fun b => .tuple #[b, .int .i64 5]) w) := by
  have hi := lt_of_at hm
  have hk := r.ok i m hm
  obtain ⟨A, k, rfl⟩ := r.open_
  obtain ⟨g, o, lv, rfl, hPg, hgl, hcell, hv, hcv⟩ := r.core hm
  obtain ⟨Av, nv, cv, rfl, HNV, HV⟩ := hv.open_
  obtain ⟨b0, b1, b2, b3, b4, b5, b6, b7, hbs⟩ := bools8 hk.len
  have hlit := rcL_lit hbs (.slice Av nv cv)
  rw [hlit] at hcell
  have f8 : f < 8 := by have := r.most; omega
  have hnv : nv = 16 := by have := HNV.out; rw [its_len] at this; omega
  subst hnv
  obtain ⟨c0, c1, c2, c3, c4, c5, c6, c7, hcs⟩ := bools8 (l := m.1.set f true) (by rw [List.length_set]; exact hk.len)
  have hset := rcL_set hk f8 true m.2 (.slice Av 16 cv)
  rw [hlit, rcL_lit (m := (m.1.set f true, m.2)) hcs] at hset
  have hk' : MailOk (m.1.set f true, m.2) := ⟨by rw [List.length_set]; exact hk.len, hk.fit, hk.low⟩
  have HSET := Lib.hid hset
  have H1 := Lib.hid (rhas9 (some ⟨g, o, none⟩) ms.length k (f : Int) w)
  have H2 := Lib.hid (rhas9 (some ⟨g, o, none⟩) ms.length k (i : Int) w)
  rw [cIs_nat hf] at H1
  rw [cIs_nat hi] at H2
  have x0 := hcell 0 _ rfl
  have x1 := hcell 1 _ rfl
  have x2 := hcell 2 _ rfl
  have x3 := hcell 3 _ rfl
  have x4 := hcell 4 _ rfl
  have x5 := hcell 5 _ rfl
  have x6 := hcell 6 _ rfl
  have x7 := hcell 7 _ rfl
  have x8 := hcell 8 _ rfl
  rw [Nat.add_zero] at x0
  have ROW := Lib.hid (Row.new w 40 #[.bool b0, .bool b1, .bool b2, .bool b3, .bool b4, .bool b5, .bool b6, .bool b7, .slice Av 16 cv])
  have hx' : 0 ≤ x ∧ x ≤ 65535 := by simpa [okW] using hx
  have hx0 := hx'.1
  have hx1 := hx'.2
  have W9 := Lib.hid (fun (W : World) (hb : Below w.heap.size w W) => rwith9 P ms (.slice (some ⟨g, o, none⟩) ms.length k) (.slice Av 16 cv) i (m.1.set f true, m.2) W (r.below hb) hi hk' (HV.out.below hb) hcv (fun b hb' => hP b (by have := hb.size; omega)))
  have hcv1 : coreV (m.1.set f true, m.2) (.slice Av 16 cv) = .agg #[.bool c0, .bool c1, .bool c2, .bool c3, .bool c4, .bool c5, .bool c6, .bool c7, .slice Av 16 cv] := by unfold coreV; rw [rcL_lit (m := (m.1.set f true, m.2)) hcs]
  rw [hcv1] at W9
  obtain ⟨C, hC⟩ : ∃ C, ms.length = C := ⟨_, rfl⟩
  rw [hC] at H1 H2 W9 hi hf ⊢
  have hmost := r.most
  rw [hC] at hmost
  clear r hm hk hcell hv hcv HNV hbs hlit hcs hset hk' hx hx' hcv1 hC hq
  go_enter Try.func22, Try.ntmps22
  go_wp2_with fail
  refine H1.out.mono ?_
  rintro e w' ⟨rfl, rfl⟩
  go_wp2_with fail
  refine H2.out.mono ?_
  rintro e w' ⟨rfl, rfl⟩
  go_wp2_with (first
    | (refine putB_walk rfl (.tmp 36) (.const (.bool true)) rfl w.heap.size f rfl true rfl 40 _ ROW.out (by simp; omega) ?_
       intro w2 hr2 ho2 hs2
       have hr2' := hr2.cast HSET.out
       have y0 := hr2'.cell 0
       have y1 := hr2'.cell 1
       have y2 := hr2'.cell 2
       have y3 := hr2'.cell 3
       have y4 := hr2'.cell 4
       have y5 := hr2'.cell 5
       have y6 := hr2'.cell 6
       have y7 := hr2'.cell 7
       have y8 := hr2'.cell 8
       simp only [List.getElem?_cons_zero, List.getElem?_cons_succ] at y0 y1 y2 y3 y4 y5 y6 y7 y8
       have hb2 : Below w.heap.size w w2 := Only.below (below_al w _) ho2 (by simp) (fun b hb e => by omega)
       have HB2 := Lib.hid hb2
       clear hr2 ho2 hs2 hr2' hb2)
    | (go_at_call 24; refine (W9.out _ HB2.out).mono ?_; rintro e w3 ⟨A3, n3, c3, rfl, hr3, hb3⟩; have HR3 := Lib.hid hr3; have HB3 := Lib.hid (below_on HB2.out hb3); clear hr3 hb3; dsimp only [id]))
  go_ret2
  exact ⟨A3, n3, c3, rfl, HR3.out, HB3.out⟩

#print axioms rring9_word
#print axioms rring9_full
end Go.Proofs.Ytfboikefjealfaa
