/-
  Layer 7 (litmus): the law LitmusAlone over a program in memory.
  Conditions: those that each theorem states.
-/
import Derived.Test.YtgljgpllooehkaaLit25
import Derived.Test.YtgljgpllooehkaaLit24
import Derived.Deep.RegionLawGrows
import Derived.Deep.RegionHeld3
namespace Go.Proofs.Ytgljgpllooehkaa
open Go.ChangeShapes Go.WideShapes Go.ChangeAt Go.RowKit

/-- One program in a block of its own. -/
theorem one_prg {w : World} {v : Value} {l : List Opn} (h : Recs w 4 v (l.map opL)) (t : TypeId) : Prg (w.alloc (.cells #[v] t)) (.slice (some ⟨w.heap.size, 0, none⟩) 1 1) [l] := by
  have r := Row.new w t #[v]
  refine ⟨_, 1, rfl, fun _ => ⟨_, rfl, r.lt, fun k l' hk => ?_⟩⟩
  rw [Addr.add_lit, Nat.zero_add, r.cell]
  match k, hk with
  | 0, hk =>
    obtain rfl : l = l' := by simpa using hk
    exact ⟨_, rfl, h.below (below_al _ _)⟩
  | k + 1, hk => simp at hk

theorem seqR_len (l : List Opn) : (seqR l).1.length = 4 ∧ (seqR l).2.length = 4 := by
  have key : ∀ (l : List Opn) (x : List Int × List Int), x.1.length = 4 → x.2.length = 4 → (l.foldl seqS x).1.length = 4 ∧ (l.foldl seqS x).2.length = 4 := by
    intro l
    induction l with
    | nil => intro x h1 h2; exact ⟨h1, h2⟩
    | cons o l ih =>
      intro x h1 h2
      refine ih _ ?_ ?_
      · unfold seqS; repeat' split
        all_goals simp [h1]
      · unfold seqS; repeat' split
        all_goals simp [h2]
  exact key l _ rfl rfl

theorem size_al' (w : World) (o : Obj) : (w.alloc o).heap.size = w.heap.size + 1 := by simp

/-- An append that grows, behind a guard that is met. -/
theorem step_grows {P : Program} {ops : Array Oper} {o : Oper} {a : Act} {w : World} {K : Act → World → Prop} {Q : Exit → Act → World → Prop} {E : Prop}
    (hw : Region.wanted o (yielded ops a.tmps) = true) (s x : Operand) (t : TypeId) (hop : o.op = Op.call { callee := Callee.builtin Builtin.append, args := #[s, x], argTypes := #[t, t] })
    (e : TypeId) (i : TypeInfo) (z : Value) (size bytes : Nat) (h1 : P.underlying t = some (.slice e)) (h2 : P.info? e = some i) (h3 : i.zero = some z) (h4 : i.size = size) (h5 : i.bytes = bytes) (h6 : z.cells.size = size) (h7 : 0 < size)
    (b : Addr) (n cap : Nat) (olds : List Value) (hs : a.eval s = .slice (some b) n cap) (hlo : olds.length = n * size) (holds : ∀ j u, olds[j]? = some u → w.cell? (b.add j) = some u)
    (ad : Addr) (m c : Nat) (news : List Value) (hx : a.eval x = .slice (some ad) m c) (hn : news.length = m * size) (hc : ∀ j u, news[j]? = some u → w.cell? (ad.add j) = some u)
    (hfull : cap < n + m) (b1 : n + m ≤ maxLen) (b2 : (n + m) * bytes ≤ 140737488355328)
    (hK : ∀ v' w', w'.ownsRow w.heap.size e size v' (n + m) (olds ++ news) → Below w.heap.size w w' → K (a.put o.dst v') w') :
    if Region.wanted o (yielded ops a.tmps) = true then Oper.wp P o a w K Q else E := by
  rw [if_pos hw]
  obtain ⟨v', w', hrun, r1, r2⟩ := run_append_arg_grows (P := P) w t o.type e i z size bytes h1 h2 h3 h4 h5 h6 h7 b n cap olds hlo holds ad m c news hn hc hfull b1 b2
  unfold Oper.wp
  simp [execOp, hop, resolve, invoke, builtin, hs, hx, hrun, Result.andThen]
  exact hK v' w' r1 (gr_none r2)

/-- The two arrays of the law's own. -/
structure AloneAt (w wr : World) (g : Nat) (x : List Int × List Int) : Prop where
  ram : Row wr g 43 (ints x.2)
  regs : Row wr (g + 1) 43 (ints x.1)
  below : Below w.heap.size w wr
  old : w.heap.size ≤ g
  len1 : x.1.length = 4
  len2 : x.2.length = 4

theorem four_at {x : List Int} (h : x.length = 4) {a : Int} (h0 : 0 ≤ a) (h3 : a ≤ 3) : x[a.toNat]? = some (x.getD a.toNat 0) := by
  rw [List.getD_eq_getElem?_getD, List.getElem?_eq_getElem (by omega)]; rfl

theorem AloneAt.setRam {w wr : World} {g : Nat} {x : List Int × List Int} (h : AloneAt w wr g x) (i : Nat) (z : Int) : AloneAt w (wr.setCell ⟨g, i, none⟩ (.int .i64 z)) g (x.1, x.2.set i z) where
  ram := row_put h.ram i z
  regs := h.regs.far (p := ⟨g, i, none⟩) (by simp) _
  below := Only.below (S := (· = g)) h.below (one_put (Only.refl _ _) _ _) h.below.size (fun b hb e => by have := h.old; omega)
  old := h.old
  len1 := h.len1
  len2 := by simpa using h.len2

theorem AloneAt.setRegs {w wr : World} {g : Nat} {x : List Int × List Int} (h : AloneAt w wr g x) (i : Nat) (z : Int) : AloneAt w (wr.setCell ⟨g + 1, i, none⟩ (.int .i64 z)) g (x.1.set i z, x.2) where
  ram := h.ram.far (p := ⟨g + 1, i, none⟩) (by simp) _
  regs := row_put h.regs i z
  below := Only.below (S := (· = g + 1)) h.below (one_put (Only.refl _ _) _ _) h.below.size (fun b hb e => by have := h.old; omega)
  old := h.old
  len1 := by simpa using h.len1
  len2 := h.len2

theorem AloneAt.on {w wr w' : World} {g : Nat} {x : List Int × List Int} (h : AloneAt w wr g x) (hb : Below wr.heap.size wr w') : AloneAt w w' g x where
  ram := h.ram.below hb
  regs := h.regs.below hb
  below := below_on h.below hb
  old := h.old
  len1 := h.len1
  len2 := h.len2

set_option maxRecDepth 100000 in
set_option maxHeartbeats 2000000 in
theorem alone_main (N : Nat) (v : Value) (l : List Opn) (w : World) (hp : Recs w 4 v (l.map opL)) (hm : l.length ≤ 4) (hR : RightS [l] (N : Int)) :
    Calls Try.prog 8 #[v, .int .i64 (N : Int)] w fun e w' => e = .returned (.bool true) ∧ Below w.heap.size w w' := by
  obtain ⟨i0, hi0, hz0, hz1, hz2⟩ := info_parts int_info
  have HP := Lib.hid hp
  have OY := Lib.hid (outcomes_yes N _ [l] _ (one_prg hp 38) hR)
  obtain ⟨A, cc, rfl, hA⟩ := hp
  clear hA
  rw [List.length_map] at HP OY ⊢
  obtain ⟨m, hme⟩ : ∃ m, l.length = m := ⟨_, rfl⟩
  rw [hme] at hm HP OY ⊢
  have HM := Lib.hid hme
  have HR := Lib.hid hR
  clear hme hR
  have t1 : decide (4 < m) = false := by simp; omega
  go_enter Try.func8, Try.ntmps8
  go_wp2_with fail
  refine OY.out.mono ?_
  rintro e w1 ⟨lv, vs, L, rfl, hl, ho, hb, hmost⟩
  obtain ⟨lA, lc, elv⟩ := own_shape hl.own
  rw [elv] at hl ⊢
  have hL1 : L = [(seqR l).1 ++ (seqR l).2] := by
    refine Outs.eq ho ⟨List.pairwise_singleton _ _, fun x => ?_⟩
    rw [out_alone HR.out x]; simp
  subst hL1
  have hv1 : vs.length = 1 := by rw [hl.len]; rfl
  have B1 := Lib.hid (below_on (below_al w (.cells #[.slice A m cc] 38)) hb)
  have LS := Lib.hid hl
  rw [hv1] at LS ⊢
  have V1 := Lib.hid hv1
  clear hl ho hb hmost elv hv1
  go_wp2
  go_loopw [39] (fun idx wr => ∃ k : Nat, k ≤ m ∧ idx = .int .i64 k ∧ Hid (AloneAt w1 wr w1.heap.size (seqR (l.take k)))) (fun idx _ => m - (intOf idx).toNat)
  case atStart =>
    have r0 := Row.new w1 43 #[.int .i64 0, .int .i64 0, .int .i64 0, .int .i64 0]
    have r1 := Row.new (w1.alloc (.cells #[.int .i64 0, .int .i64 0, .int .i64 0, .int .i64 0] 43)) 43 #[.int .i64 0, .int .i64 0, .int .i64 0, .int .i64 0]
    rw [size_al'] at r1
    have r1' : Row _ (w1.heap.size + 1) 43 (ints (seqR []).1) := r1
    exact ⟨0, Nat.zero_le _, rfl, Lib.hid ⟨r0.below (below_al _ _), r1', below_on (below_al _ _) (below_al _ _), Nat.le_refl _, rfl, rfl⟩⟩
  case round =>
    obtain ⟨k, hk, rfl, HK⟩ := hrel
    by_cases hlt : k < m
    · obtain ⟨ad, c', K, a, x, r, hzs, hv', hz, c0, c1, c2, c3⟩ := Recs.four HP.out (below_on B1.out HK.out.below) (by rw [List.length_map, HM.out]; exact hlt)
      rw [List.length_map, HM.out] at hv'
      injection hv' with hv' _ hv2
      subst hv' hv2
      obtain ⟨o, ho, hol⟩ : ∃ o, l[k]? = some o ∧ opL o = [K, a, x, r] := by
        rw [List.getElem?_map, Option.map_eq_some_iff] at hzs
        exact hzs
      obtain ⟨K', a', x', r'⟩ := o
      simp only [opL, List.cons.injEq, and_true] at hol
      obtain ⟨rfl, rfl, rfl, rfl⟩ := hol
      obtain ⟨k1, k4, a0, a3, g0, g3, x0, x9⟩ := (HR.out.each l (by simp)).2 _ (List.mem_of_getElem? ho)
      simp only at k1 k4 a0 a3 g0 g3 x0 x9
      have SM := Lib.hid (seqR_more ho)
      have ra := row_cell HK.out.ram (four_at HK.out.len2 a0 a3)
      have rr := row_cell HK.out.regs (four_at HK.out.len1 g0 g3)
      have fa := Row.soft HK.out.ram a'.toNat
      have fr := Row.soft HK.out.regs r'.toNat
      have n0 := HK.out.ram.lt
      have n1 := HK.out.regs.lt
      have n2 : w1.heap.size ≠ wr.heap.size := by omega
      have n3 : w1.heap.size + 1 ≠ wr.heap.size := by omega
      have t2 : decide (a' < 0) = false := by simp; omega
      have t3 : decide (3 < a') = false := by simp; omega
      have t4 : decide (r' < 0) = false := by simp; omega
      have t5 : decide (3 < r') = false := by simp; omega
      have a4 : a' < 4 := by omega
      have r4 : r' < 4 := by omega
      generalize hya : (seqR (l.take k)).2.getD a'.toNat 0 = ya at ra
      generalize (seqR (l.take k)).1.getD r'.toNat 0 = yr at rr
      have HYA := Lib.hid hya
      clear hya hzs hz ho a3 g3 x0 x9
      rcases (show K' = 1 ∨ K' = 2 ∨ K' = 3 ∨ K' = 4 by omega) with rfl | rfl | rfl | rfl
      · clear k1 k4
        go_wp2
        go_region
        go_wp2
        go_roundw
        case rel =>
          refine ⟨k + 1, by omega, by go_num, Lib.hid ?_⟩
          rw [SM.out]
          have := (HK.out.setRegs r'.toNat ya).on (below_al _ (.cells #[.int .i64 1, .int .i64 a', .int .i64 x', .int .i64 r'] 40)).drew
          rw [← HYA.out] at this ⊢
          exact this
        case measure => simp [intOf]; omega
      · clear k1 k4
        go_wp2
        go_roundw
        case rel =>
          refine ⟨k + 1, by omega, by go_num, Lib.hid ?_⟩
          rw [SM.out]
          have := (HK.out.setRam a'.toNat x').on (below_al _ (.cells #[.int .i64 2, .int .i64 a', .int .i64 x', .int .i64 r'] 40))
          simpa [seqS] using this
        case measure => simp [intOf]; omega
      · clear k1 k4
        go_wp2
        go_roundw
        case rel =>
          refine ⟨k + 1, by omega, by go_num, Lib.hid ?_⟩
          rw [SM.out]
          have := HK.out.on (below_al _ (.cells #[.int .i64 3, .int .i64 a', .int .i64 x', .int .i64 r'] 40))
          simpa [seqS] using this
        case measure => simp [intOf]; omega
      · clear k1 k4
        go_wp2
        go_region
        go_wp2
        go_roundw
        case rel =>
          refine ⟨k + 1, by omega, by go_num, Lib.hid ?_⟩
          rw [SM.out]
          have := ((HK.out.setRegs r'.toNat ya).setRam a'.toNat x').on (below_al _ (.cells #[.int .i64 4, .int .i64 a', .int .i64 x', .int .i64 r'] 40)).drew
          rw [← HYA.out] at this ⊢
          exact this
        case measure => simp [intOf]; omega
    · obtain rfl : k = m := by omega
      have HK1 : Hid (AloneAt w1 wr w1.heap.size (seqR l)) := Lib.hid (by have := HK.out; rwa [List.take_of_length_le (by rw [HM.out]; omega)] at this)
      obtain ⟨u, hu⟩ : ∃ u, vs[0]? = some u := ⟨_, List.getElem?_eq_getElem (by rw [V1.out]; omega)⟩
      obtain ⟨g, c', hv, hgl, hcell⟩ := LS.out.at_ hu
      rw [V1.out] at hv
      injection hv with e1 e2 e3
      subst e1
      have d0 : wr.cell? ⟨g, 0, none⟩ = some u := (HK1.out.below.cell (p := ⟨g, 0, none⟩) hgl).trans hcell
      have LU := Lib.hid ((Lies.of_own (LS.out.each 0 u _ hu rfl)).below HK1.out.below)
      have X1 : Hid ((ints (seqR l).1).length = 4 * 1) := Lib.hid (by rw [ints_len]; exact HK1.out.len1)
      have X2 : Hid ((ints (seqR l).2).length = 4 * 1) := Lib.hid (by rw [ints_len]; exact HK1.out.len2)
      have HB := Lib.hid (below_on B1.out HK1.out.below)
      have XL : Hid (((seqR l).1 ++ (seqR l).2).length ≤ 65536) := Lib.hid (by rw [List.length_append, HK1.out.len1, HK1.out.len2]; omega)
      have hgr : g < wr.heap.size := Nat.lt_of_lt_of_le hgl HK1.out.below.size
      have SA : Hid (∀ (W : World) (base : Nat) (v5 : Value), Below wr.heap.size wr W → W.ownsRow base 3 1 v5 (4 + 4) (ints (seqR l).1 ++ ints (seqR l).2) → Calls Try.prog 20 #[u, v5] W fun e w' => e = .returned (.bool true) ∧ Below wr.heap.size wr w') := Lib.hid (fun W base v5 hb hown =>
        (rsame_yes _ _ _ _ ((seqR l).1 ++ (seqR l).2) W (LU.out.below hb) (Lies.of_own (by rw [ints_append]; exact hown)) XL.out).mono fun e w' ⟨he, h'⟩ => ⟨he, below_on hb h'⟩)
      have AL : Hid (∀ W, Below wr.heap.size wr W → Calls Try.prog 10 #[] W fun e w' => e = .returned (.bool true) ∧ Below wr.heap.size wr w') := Lib.hid (fun W hb => (alive_any W).mono fun e w' ⟨he, h'⟩ => ⟨he, below_on hb h'⟩)
      have BD : Hid (Below wr.heap.size wr wr.drew) := Lib.hid (Below.refl _ _).drew
      have G1 : Hid (∀ j u, (ints (seqR l).1)[j]? = some u → wr.drew.cell? ((⟨w1.heap.size + 1, 0, none⟩ : Addr).add j) = some u) := Lib.hid (fun j u hu => by rw [Addr.add_lit, Nat.zero_add]; exact (HK1.out.regs.drew.cell j).trans hu)
      have G2 : Hid (∀ j u, (ints (seqR l).2)[j]? = some u → wr.drew.cell? ((⟨w1.heap.size, 0, none⟩ : Addr).add j) = some u) := Lib.hid (fun j u hu => by rw [Addr.add_lit, Nat.zero_add]; exact (HK1.out.ram.drew.cell j).trans hu)
      have KP : Hid (∀ W, Below wr.heap.size wr W → W.cell? ⟨g, 0, none⟩ = some u) := Lib.hid (fun W hb => (hb.cell (p := ⟨g, 0, none⟩) hgr).trans d0)
      clear hu hcell e2 e3 hgl HK
      go_wp2
      go_region_held3 (fun W => W.cell? ⟨g, 0, none⟩ = some u ∧ Below wr.heap.size wr W)
        (first | exact ⟨KP.out _ hb7, hb7⟩ | exact ⟨KP.out _ hb6, hb6⟩ | exact ⟨KP.out _ hb5, hb5⟩ | exact ⟨KP.out _ BD.out, BD.out⟩ | go_keep)
        (first
          | (refine step_grows (by kernel_rfl) (.tmp 101) (.tmp 102) 35 rfl 3 i0 _ 1 8 Try.underlying35 hi0 hz0 hz1 hz2 rfl (by decide) ⟨w1.heap.size + 1, 0, none⟩ 4 4 (ints (seqR l).1) (by kernel_rfl) X1.out G1.out ⟨w1.heap.size, 0, none⟩ 4 4 (ints (seqR l).2) (by kernel_rfl) X2.out G2.out (by decide) (by decide) (by decide) ?_; intro v5 w5 hown5 hb5'; have hb5 := below_on BD.out hb5'; have OW5 := Lib.hid hown5; clear hb5' hown5)
          | (go_at_call 20; refine (SA.out _ _ _ hb5 OW5.out).mono ?_; rintro e w6 ⟨rfl, hb6⟩)
          | (go_at_call 10; refine (AL.out _ hb6).mono ?_; rintro e w7 ⟨rfl, hb7⟩))
      all_goals go_wp2
      all_goals go_ret
      all_goals exact ⟨rfl, below_on HB.out hb7⟩

#print axioms alone_main
end Go.Proofs.Ytgljgpllooehkaa
