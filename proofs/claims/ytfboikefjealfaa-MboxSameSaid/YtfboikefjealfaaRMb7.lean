/-
  The reference of layer 9: Do: Take, Pending, any call.
  Conditions: those that each theorem states.
-/
import Derived.Test.YtfboikefjealfaaRMb6
namespace Go.Proofs.Ytfboikefjealfaa
open Go.ChangeShapes Go.WideShapes Go.ChangeAt Go.RowKit

/-- The same, with a second item. -/
structure SomT (w W : World) (K c t x : Int) (cs : List Value) (y1 y2 : Int) : Prop where
  base : DoT w W K c t x cs
  itm : Row W (w.heap.size + 1 + 1 + 1) 32 [.int .i64 y1, .int .i64 y2]
theorem SomT.below {w W W' : World} {K c t x y1 y2 : Int} {cs : List Value} (h : SomT w W K c t x cs y1 y2) (hb : Below W.heap.size W W') : SomT w W' K c t x cs y1 y2 := ⟨h.base.below hb, h.itm.below hb⟩
theorem SomT.store {w W : World} {K c t x y1 y2 : Int} {cs : List Value} (h : SomT w W K c t x cs y1 y2) (u v : Value) : SomT w ((W.setCell ⟨w.heap.size + 1, 0, none⟩ u).setCell ⟨w.heap.size + 1, 1, none⟩ v) K c t x cs y1 y2 :=
  ⟨h.base.store u v, (h.itm.far (p := ⟨w.heap.size + 1, 0, none⟩) (by show w.heap.size + 1 + 1 + 1 ≠ w.heap.size + 1; omega) u).far (p := ⟨w.heap.size + 1, 1, none⟩) (by show w.heap.size + 1 + 1 + 1 ≠ w.heap.size + 1; omega) v⟩

/-- A store of a slice into a block known whole. -/
theorem putS_walk {w : World} {ops : Array Oper} {rest : List Oper} {o : Oper} {a : Act} {Q : Exit → Act → World → Prop} (hgd : o.guard = none) (x y : Operand) (ho : o.op = .store 38 x y) (g i : Nat) (hx : a.eval x = .pointer (some ⟨g, i, none⟩)) (A : Option Addr) (n c : Nat) (hy : a.eval y = .slice A n c)
    (t : TypeId) (cs : List Value) (hg : Row w g t cs) (hi : i < cs.length) (h : ∀ w', Row w' g t (cs.set i (.slice A n c)) → Only (fun k => k = g) w w' → w'.heap.size = w.heap.size → wpList Try.prog ops Q rest (a.put o.dst undef) w') : wpList Try.prog ops Q (o :: rest) a w := by
  refine wpList_plain hgd fun K hK => ?_
  have hc : w.cell? ⟨g, i, none⟩ = some cs[i] := by rw [hg.cell, List.getElem?_eq_getElem hi]
  have hf := hg.soft i
  unfold Oper.wp execOp
  simp only [ho, hx, hy]
  simp [go_sem, hc, hf]
  exact hK _ _ (h _ (hg.put i _) (only_put w g i _) (by simp [World.setCell]))

theorem it_size : (Try.prog.info? 32).map (·.size) = some 2 := by kernel_rfl

theorem slice_it (A : Option Addr) (n c k : Nat) (h : k ≤ n) (W : World) : (Instr.slice 38 (.slice A n c) (some (.int .i64 (k : Int))) none none).run Try.prog W = .ok (.slice (if c = k then A else A.map (·.add (k * 2))) (n - k) (c - k)) W := by
  have hz : (sizeOf (Try.prog.elem 38)).run Try.prog W = .ok 2 W := by
    have : Try.prog.elem 38 = 32 := by kernel_rfl
    rw [this]
    obtain ⟨i, hi, hs⟩ := Option.map_eq_some_iff.1 it_size
    simp [sizeOf, typeInfo, hi, hs]
  rw [run_slice_l (P := Try.prog) (w := W) 38 A n c (by kernel_rfl) .i64 (k : Int) (by omega) (by omega), hz]
  have e1 : ((k : Int)).toNat = k := by omega
  simp only [Result.andThen, sliced, e1]

set_option maxRecDepth 100000 in
set_option maxHeartbeats 1500000 in
theorem rdo9_pend (P : Nat → Prop) (ms : List Mail) (v : Value) (i : Nat) (m : Mail) (K : Int) (t x : Int) (w : World) (r : RBox w P ms v) (hm : ms[i]? = some m) (hP : ∀ b, w.heap.size ≤ b → P b) (q0 : (K == 0) = false) (q2 : (K == 2) = false) (q3 : (K == 3) = false) (q4 : (K == 4) = false) :
    Calls Try.prog 10 #[v, opV9 K (i : Int) t x] w (RBoxP P ms (fun b => .tuple #[b, .agg #[.int .i64 0, .int .i64 (maskB m.1)], .int .i64 0]) w) := by
  have hi := lt_of_at hm
  have hk := r.ok i m hm
  have r := r.weak (Q := fun b => P b ∧ b ≠ w.heap.size + 1) (fun g hg h => ⟨h, by omega⟩)
  have HP : Hid (∀ b, w.heap.size + 1 + 1 ≤ b → P b ∧ b ≠ w.heap.size + 1) := Lib.hid (fun b hb => ⟨hP b (by omega), by omega⟩)
  obtain ⟨A, k, rfl⟩ := r.open_
  obtain ⟨g, o, lv, rfl, hPg, hgl, hcell, hv, hcv⟩ := r.core hm
  obtain ⟨Av, nv, cv, rfl, HNV, HV⟩ := hv.open_
  obtain ⟨b0, b1, b2, b3, b4, b5, b6, b7, hbs⟩ := bools8 hk.len
  have hlit := rcL_lit hbs (.slice Av nv cv)
  rw [hlit] at hcell
  have HNQ : Hid (m.2.length = nv) := Lib.hid (by have := HNV.out; rwa [its_len] at this)
  have H1 := fun W => Lib.hid (rhas9 (some ⟨g, o, none⟩) ms.length k (i : Int) W)
  rw [cIs_nat hi] at H1
  have x0 := hcell 0 _ rfl
  have x1 := hcell 1 _ rfl
  have x2 := hcell 2 _ rfl
  have x3 := hcell 3 _ rfl
  have x4 := hcell 4 _ rfl
  have x5 := hcell 5 _ rfl
  have x6 := hcell 6 _ rfl
  have x7 := hcell 7 _ rfl
  have x8 := hcell 8 _ rfl
  rw [Nat.add_zero] at x0
  have hg1 : g ≠ w.heap.size := by omega
  have hg2 : g ≠ w.heap.size + 1 := by omega
  have hcvv : coreV m (.slice Av nv cv) = .agg #[.bool b0, .bool b1, .bool b2, .bool b3, .bool b4, .bool b5, .bool b6, .bool b7, .slice Av nv cv] := by unfold coreV; rw [hlit]
  have D0 : DoT w (((w.alloc (.cells #[.int .i64 K, .int .i64 (i : Int), .int .i64 t, .int .i64 x] 30)).alloc (.cells #[.int .i64 0, .int .i64 0] 32)).alloc (.cells #[.bool b0, .bool b1, .bool b2, .bool b3, .bool b4, .bool b5, .bool b6, .bool b7, .slice Av nv cv] 40)) K (i : Int) t x [.bool b0, .bool b1, .bool b2, .bool b3, .bool b4, .bool b5, .bool b6, .bool b7, .slice Av nv cv] := by
    have h1 := Row.new (w.alloc (.cells #[.int .i64 K, .int .i64 (i : Int), .int .i64 t, .int .i64 x] 30)) 32 #[.int .i64 0, .int .i64 0]
    have h2 := Row.new ((w.alloc (.cells #[.int .i64 K, .int .i64 (i : Int), .int .i64 t, .int .i64 x] 30)).alloc (.cells #[.int .i64 0, .int .i64 0] 32)) 40 #[.bool b0, .bool b1, .bool b2, .bool b3, .bool b4, .bool b5, .bool b6, .bool b7, .slice Av nv cv]
    simp only [size_al] at h1 h2
    exact ⟨below_on (below_on (below_al _ _) (below_al _ _)) (below_al _ _), ((Row.new w 30 #[.int .i64 K, .int .i64 (i : Int), .int .i64 t, .int .i64 x]).below (below_al _ _)).below (below_al _ _), h2, _, _, h1.below (below_al _ _)⟩
  have MK := Lib.hid (fun W => rmask9 m (.slice Av nv cv) W hk)
  rw [hcvv] at MK
  obtain ⟨N, hN⟩ : ∃ N, maskB m.1 = N := ⟨_, rfl⟩
  rw [hN] at MK ⊢
  have HRES := Lib.hid (Row.new (w.alloc (.cells #[.int .i64 K, .int .i64 (i : Int), .int .i64 t, .int .i64 x] 30)) 32 #[.int .i64 0, .int .i64 0])
  clear hN
  have R := Lib.hid r
  have HK := Lib.hid hk
  have HCV := Lib.hid hcv
  have HI := Lib.hid hi
  have HM := Lib.hid hm
  have HCVV := Lib.hid hcvv
  have hmost := r.most
  obtain ⟨C, hC⟩ : ∃ C, ms.length = C := ⟨_, rfl⟩
  have HC := Lib.hid hC
  have R0 := Lib.hid r
  rw [hC] at H1 R0 hi hmost
  rw [hC] at R
  have hD0 := Lib.hid D0
  clear r hk hcell hv hcv hm hcvv hlit hP D0
  rw [hC]
  clear hC HM HI HK HCV HP HCVV
  unfold opV9
  go_enter Try.func10, Try.ntmps10
  go_wp2_with (first
    | (go_at_call 23; refine (H1 _).out.mono ?_; rintro e w2 ⟨rfl, rfl⟩)
    | (go_at_call 13; refine (MK.out _).mono ?_; rintro e w4 ⟨rfl, hb4⟩; have d4 := hD0.out.below hb4; obtain ⟨u4, v4, hr4⟩ := d4.res; have y0 := hr4.cell 0; have y1 := hr4.cell 1; have f0 := hr4.soft 0; have f1 := hr4.soft 1; simp only [List.getElem?_cons_zero, List.getElem?_cons_succ] at y0 y1; have D4 := Lib.hid d4; clear d4 hr4 hb4))
  exact bodyPost_ret (v := .tuple #[.slice (some ⟨g, o, none⟩) C k, .agg #[.int .i64 0, .int .i64 N], .int .i64 0]) (by simp [results, Try.results10, go_sem, *]) rfl ⟨some ⟨g, o, none⟩, C, k, rfl, (R.out.below D4.out.bel).res _ _, (D4.out.store _ _).bel⟩

set_option maxRecDepth 100000 in
set_option maxHeartbeats 1500000 in
theorem rdo9_none (P : Nat → Prop) (ms : List Mail) (v : Value) (i : Nat) (m : Mail) (t x : Int) (w : World) (r : RBox w P ms v) (hm : ms[i]? = some m) (hP : ∀ b, w.heap.size ≤ b → P b) (hq : m.2 = []) :
    Calls Try.prog 10 #[v, opV9 3 (i : Int) t x] w (RBoxP P ms (fun b => .tuple #[b, .agg #[.int .i64 0, .int .i64 0], .int .i64 6]) w) := by
  have hi := lt_of_at hm
  have hk := r.ok i m hm
  have r := r.weak (Q := fun b => P b ∧ b ≠ w.heap.size + 1) (fun g hg h => ⟨h, by omega⟩)
  have HP : Hid (∀ b, w.heap.size + 1 + 1 ≤ b → P b ∧ b ≠ w.heap.size + 1) := Lib.hid (fun b hb => ⟨hP b (by omega), by omega⟩)
  obtain ⟨A, k, rfl⟩ := r.open_
  obtain ⟨g, o, lv, rfl, hPg, hgl, hcell, hv, hcv⟩ := r.core hm
  obtain ⟨Av, nv, cv, rfl, HNV, HV⟩ := hv.open_
  obtain ⟨b0, b1, b2, b3, b4, b5, b6, b7, hbs⟩ := bools8 hk.len
  have hlit := rcL_lit hbs (.slice Av nv cv)
  rw [hlit] at hcell
  have HNQ : Hid (m.2.length = nv) := Lib.hid (by have := HNV.out; rwa [its_len] at this)
  have H1 := fun W => Lib.hid (rhas9 (some ⟨g, o, none⟩) ms.length k (i : Int) W)
  rw [cIs_nat hi] at H1
  have x0 := hcell 0 _ rfl
  have x1 := hcell 1 _ rfl
  have x2 := hcell 2 _ rfl
  have x3 := hcell 3 _ rfl
  have x4 := hcell 4 _ rfl
  have x5 := hcell 5 _ rfl
  have x6 := hcell 6 _ rfl
  have x7 := hcell 7 _ rfl
  have x8 := hcell 8 _ rfl
  rw [Nat.add_zero] at x0
  have hg1 : g ≠ w.heap.size := by omega
  have hg2 : g ≠ w.heap.size + 1 := by omega
  have hcvv : coreV m (.slice Av nv cv) = .agg #[.bool b0, .bool b1, .bool b2, .bool b3, .bool b4, .bool b5, .bool b6, .bool b7, .slice Av nv cv] := by unfold coreV; rw [hlit]
  have D0 : DoT w (((w.alloc (.cells #[.int .i64 3, .int .i64 (i : Int), .int .i64 t, .int .i64 x] 30)).alloc (.cells #[.int .i64 0, .int .i64 0] 32)).alloc (.cells #[.bool b0, .bool b1, .bool b2, .bool b3, .bool b4, .bool b5, .bool b6, .bool b7, .slice Av nv cv] 40)) 3 (i : Int) t x [.bool b0, .bool b1, .bool b2, .bool b3, .bool b4, .bool b5, .bool b6, .bool b7, .slice Av nv cv] := by
    have h1 := Row.new (w.alloc (.cells #[.int .i64 3, .int .i64 (i : Int), .int .i64 t, .int .i64 x] 30)) 32 #[.int .i64 0, .int .i64 0]
    have h2 := Row.new ((w.alloc (.cells #[.int .i64 3, .int .i64 (i : Int), .int .i64 t, .int .i64 x] 30)).alloc (.cells #[.int .i64 0, .int .i64 0] 32)) 40 #[.bool b0, .bool b1, .bool b2, .bool b3, .bool b4, .bool b5, .bool b6, .bool b7, .slice Av nv cv]
    simp only [size_al] at h1 h2
    exact ⟨below_on (below_on (below_al _ _) (below_al _ _)) (below_al _ _), ((Row.new w 30 #[.int .i64 3, .int .i64 (i : Int), .int .i64 t, .int .i64 x]).below (below_al _ _)).below (below_al _ _), h2, _, _, h1.below (below_al _ _)⟩
  have hnv : nv = 0 := by have := HNQ.out; rw [hq] at this; simpa using this.symm
  subst hnv
  clear hq
  have R := Lib.hid r
  have HK := Lib.hid hk
  have HCV := Lib.hid hcv
  have HI := Lib.hid hi
  have HM := Lib.hid hm
  have HCVV := Lib.hid hcvv
  have hmost := r.most
  obtain ⟨C, hC⟩ : ∃ C, ms.length = C := ⟨_, rfl⟩
  have HC := Lib.hid hC
  have R0 := Lib.hid r
  rw [hC] at H1 R0 hi hmost
  rw [hC] at R
  have hD0 := Lib.hid D0
  clear r hk hcell hv hcv hm hcvv hlit hP D0
  rw [hC]
  clear hC HM HI HK HCV HP HCVV
  unfold opV9
  go_enter Try.func10, Try.ntmps10
  go_wp2_with (go_at_call 23; refine (H1 _).out.mono ?_; rintro e w2 ⟨rfl, rfl⟩)
  exact bodyPost_ret (v := .tuple #[.slice (some ⟨g, o, none⟩) C k, .agg #[.int .i64 0, .int .i64 0], .int .i64 6]) (by simp [results, Try.results10, go_sem, *]) rfl ⟨some ⟨g, o, none⟩, C, k, rfl, (R.out.below hD0.out.bel).weak (fun _ _ h => h.1), hD0.out.bel⟩

set_option maxRecDepth 100000 in
set_option maxHeartbeats 1500000 in
theorem rdo9_some (P : Nat → Prop) (ms : List Mail) (v : Value) (i : Nat) (m : Mail) (y1 y2 : Int) (q : List (Int × Int)) (t x : Int) (w : World) (r : RBox w P ms v) (hm : ms[i]? = some m) (hP : ∀ b, w.heap.size ≤ b → P b) (hq : m.2 = (y1, y2) :: q) :
    Calls Try.prog 10 #[v, opV9 3 (i : Int) t x] w (RBoxP P (ms.set i (m.1, q)) (fun b => .tuple #[b, .agg #[.int .i64 y1, .int .i64 y2], .int .i64 0]) w) := by
  have hi := lt_of_at hm
  have hk := r.ok i m hm
  have r := r.weak (Q := fun b => P b ∧ b ≠ w.heap.size + 1) (fun g hg h => ⟨h, by omega⟩)
  have HP : Hid (∀ b, w.heap.size + 1 + 1 ≤ b → P b ∧ b ≠ w.heap.size + 1) := Lib.hid (fun b hb => ⟨hP b (by omega), by omega⟩)
  obtain ⟨A, k, rfl⟩ := r.open_
  obtain ⟨g, o, lv, rfl, hPg, hgl, hcell, hv, hcv⟩ := r.core hm
  obtain ⟨Av, nv, cv, rfl, HNV, HV⟩ := hv.open_
  obtain ⟨b0, b1, b2, b3, b4, b5, b6, b7, hbs⟩ := bools8 hk.len
  have hlit := rcL_lit hbs (.slice Av nv cv)
  rw [hlit] at hcell
  have HNQ : Hid (m.2.length = nv) := Lib.hid (by have := HNV.out; rwa [its_len] at this)
  have H1 := fun W => Lib.hid (rhas9 (some ⟨g, o, none⟩) ms.length k (i : Int) W)
  rw [cIs_nat hi] at H1
  have x0 := hcell 0 _ rfl
  have x1 := hcell 1 _ rfl
  have x2 := hcell 2 _ rfl
  have x3 := hcell 3 _ rfl
  have x4 := hcell 4 _ rfl
  have x5 := hcell 5 _ rfl
  have x6 := hcell 6 _ rfl
  have x7 := hcell 7 _ rfl
  have x8 := hcell 8 _ rfl
  rw [Nat.add_zero] at x0
  have hg1 : g ≠ w.heap.size := by omega
  have hg2 : g ≠ w.heap.size + 1 := by omega
  have hcvv : coreV m (.slice Av nv cv) = .agg #[.bool b0, .bool b1, .bool b2, .bool b3, .bool b4, .bool b5, .bool b6, .bool b7, .slice Av nv cv] := by unfold coreV; rw [hlit]
  have D0 : DoT w (((w.alloc (.cells #[.int .i64 3, .int .i64 (i : Int), .int .i64 t, .int .i64 x] 30)).alloc (.cells #[.int .i64 0, .int .i64 0] 32)).alloc (.cells #[.bool b0, .bool b1, .bool b2, .bool b3, .bool b4, .bool b5, .bool b6, .bool b7, .slice Av nv cv] 40)) 3 (i : Int) t x [.bool b0, .bool b1, .bool b2, .bool b3, .bool b4, .bool b5, .bool b6, .bool b7, .slice Av nv cv] := by
    have h1 := Row.new (w.alloc (.cells #[.int .i64 3, .int .i64 (i : Int), .int .i64 t, .int .i64 x] 30)) 32 #[.int .i64 0, .int .i64 0]
    have h2 := Row.new ((w.alloc (.cells #[.int .i64 3, .int .i64 (i : Int), .int .i64 t, .int .i64 x] 30)).alloc (.cells #[.int .i64 0, .int .i64 0] 32)) 40 #[.bool b0, .bool b1, .bool b2, .bool b3, .bool b4, .bool b5, .bool b6, .bool b7, .slice Av nv cv]
    simp only [size_al] at h1 h2
    exact ⟨below_on (below_on (below_al _ _) (below_al _ _)) (below_al _ _), ((Row.new w 30 #[.int .i64 3, .int .i64 (i : Int), .int .i64 t, .int .i64 x]).below (below_al _ _)).below (below_al _ _), h2, _, _, h1.below (below_al _ _)⟩
  have hk2 : MailOk (m.1, q) := ⟨hk.len, by have := hk.fit; rw [hq] at this; simp at this; simp only; omega, fun p hp => hk.low p (by rw [hq]; exact List.mem_cons_of_mem _ hp)⟩
  obtain ⟨n, hn⟩ : ∃ n, q.length = n := ⟨_, rfl⟩
  have hnv : nv = n + 1 := by have := HNQ.out; rw [hq, List.length_cons, hn] at this; omega
  subst hnv
  have hVQ := HV.out
  rw [hq] at hVQ
  obtain ⟨gt, ot, rfl, _, hgt, ct0, ct1⟩ := hVQ.cells (k := 0) (its_at (l := (y1, y2) :: q) (k := 0) rfl)
  simp only [Nat.zero_mul, Nat.add_zero] at ct0 ct1
  have hL := hVQ.from_ (k := 1) hcv (by omega)
  have hs := fun W => slice_it (some ⟨gt, ot, none⟩) (n + 1) cv 1 (by omega) W
  obtain ⟨B, hB⟩ : ∃ B, B = (if cv = 1 then some ⟨gt, ot, none⟩ else (some (⟨gt, ot, none⟩ : Addr)).map (·.add (1 * 2))) := ⟨_, rfl⟩
  rw [← hB] at hL hs
  rw [Nat.add_sub_cancel] at hL hs
  have k1 : ((1 : Nat) : Int) = 1 := rfl
  rw [k1] at hs
  have hL' : Two w (fun b => P b ∧ b ≠ w.heap.size + 1) (.slice B n (cv - 1)) (its q) ∧ CapOk (.slice B n (cv - 1)) := hL
  have HL := Lib.hid hL'
  have n16 : n ≤ 16 := by have := hk.fit; rw [hq, List.length_cons] at this; omega
  have bz : ((n : Int) + 1 == 0) = false := by simp; omega
  have l0 : ∀ a b c : Obj, (((w.alloc a).alloc b).alloc c).cell? ⟨gt, ot, none⟩ = some (.int .i64 y1) := fun a b c => ((below_on (below_on (below_al w a) (below_al _ b)) (below_al _ c)).cell (p := ⟨gt, ot, none⟩) hgt).trans ct0
  have l1 : ∀ a b c : Obj, (((w.alloc a).alloc b).alloc c).cell? ⟨gt, ot + 1, none⟩ = some (.int .i64 y2) := fun a b c => ((below_on (below_on (below_al w a) (below_al _ b)) (below_al _ c)).cell (p := ⟨gt, ot + 1, none⟩) hgt).trans ct1
  have gt1 : gt ≠ w.heap.size := by omega
  have gt2 : gt ≠ w.heap.size + 1 := by omega
  have gt3 : gt ≠ w.heap.size + 1 + 1 := by omega
  have D2 : DoT w (((w.alloc (.cells #[.int .i64 3, .int .i64 (i : Int), .int .i64 t, .int .i64 x] 30)).alloc (.cells #[.int .i64 0, .int .i64 0] 32)).alloc (.cells #[.bool b0, .bool b1, .bool b2, .bool b3, .bool b4, .bool b5, .bool b6, .bool b7, .slice B n (cv - 1)] 40)) 3 (i : Int) t x [.bool b0, .bool b1, .bool b2, .bool b3, .bool b4, .bool b5, .bool b6, .bool b7, .slice B n (cv - 1)] := by
    have h1 := Row.new (w.alloc (.cells #[.int .i64 3, .int .i64 (i : Int), .int .i64 t, .int .i64 x] 30)) 32 #[.int .i64 0, .int .i64 0]
    have h2 := Row.new ((w.alloc (.cells #[.int .i64 3, .int .i64 (i : Int), .int .i64 t, .int .i64 x] 30)).alloc (.cells #[.int .i64 0, .int .i64 0] 32)) 40 #[.bool b0, .bool b1, .bool b2, .bool b3, .bool b4, .bool b5, .bool b6, .bool b7, .slice B n (cv - 1)]
    simp only [size_al] at h1 h2
    exact ⟨below_on (below_on (below_al _ _) (below_al _ _)) (below_al _ _), ((Row.new w 30 #[.int .i64 3, .int .i64 (i : Int), .int .i64 t, .int .i64 x]).below (below_al _ _)).below (below_al _ _), h2, _, _, h1.below (below_al _ _)⟩
  have D1 := Lib.hid (D2.below (below_al _ (.cells #[.int .i64 y1, .int .i64 y2] 32)))
  have T1 := Row.new (((w.alloc (.cells #[.int .i64 3, .int .i64 (i : Int), .int .i64 t, .int .i64 x] 30)).alloc (.cells #[.int .i64 0, .int .i64 0] 32)).alloc (.cells #[.bool b0, .bool b1, .bool b2, .bool b3, .bool b4, .bool b5, .bool b6, .bool b7, .slice B n (cv - 1)] 40)) 32 #[.int .i64 y1, .int .i64 y2]
  simp only [size_al] at T1
  have HT1 := Lib.hid T1
  clear hL hL' hB k1 hVQ T1 D2
  have R := Lib.hid r
  have HK := Lib.hid hk
  have HCV := Lib.hid hcv
  have HI := Lib.hid hi
  have HM := Lib.hid hm
  have HCVV := Lib.hid hcvv
  have hmost := r.most
  obtain ⟨C, hC⟩ : ∃ C, ms.length = C := ⟨_, rfl⟩
  have HC := Lib.hid hC
  have R0 := Lib.hid r
  rw [hC] at H1 R0 hi hmost
  rw [hC] at R
  have hD0 := Lib.hid D0
  clear r hk hcell hv hcv hm hcvv hlit hP D0
  have hlit2 := rcL_lit (m := m) hbs (.slice B n (cv - 1))
  have hcv2 : coreV (m.1, q) (.slice B n (cv - 1)) = .agg #[.bool b0, .bool b1, .bool b2, .bool b3, .bool b4, .bool b5, .bool b6, .bool b7, .slice B n (cv - 1)] := by unfold coreV; rw [rcL_lit (m := (m.1, q)) hbs]
  have WI := Lib.hid (fun W (h : SomT w W 3 (i : Int) t x [.bool b0, .bool b1, .bool b2, .bool b3, .bool b4, .bool b5, .bool b6, .bool b7, .slice B n (cv - 1)] y1 y2) => (rwith9 (fun b => P b ∧ b ≠ w.heap.size + 1) ms (.slice (some ⟨g, o, none⟩) C k) (.slice B n (cv - 1)) i (m.1, q) W (by have := R.out; exact this.below h.base.bel) HI.out hk2 (HL.out.1.below h.base.bel) HL.out.2 (fun b hb' => HP.out b (by have := h.base.core.lt; omega))).mono (R' := fun e w' => ∃ A4 n4 c4 u v, e = .returned (.slice A4 n4 c4) ∧ Hid (RBox w' (fun b => P b ∧ b ≠ w.heap.size + 1) (ms.set i (m.1, q)) (.slice A4 n4 c4)) ∧ w'.cell? ⟨w.heap.size + 1, 0, none⟩ = some u ∧ w'.cell? ⟨w.heap.size + 1, 1, none⟩ = some v ∧ w'.frozen? ⟨w.heap.size + 1, 0, none⟩ = false ∧ w'.frozen? ⟨w.heap.size + 1, 1, none⟩ = false ∧ SomT w w' 3 (i : Int) t x [.bool b0, .bool b1, .bool b2, .bool b3, .bool b4, .bool b5, .bool b6, .bool b7, .slice B n (cv - 1)] y1 y2) (fun e w' ⟨A4, n4, c4, he, hr4, hb4⟩ => by
    have h4 := h.below hb4
    obtain ⟨u, v, hr⟩ := h4.base.res
    exact ⟨A4, n4, c4, u, v, he, hr4, hr.cell 0, hr.cell 1, hr.soft 0, hr.soft 1, h4⟩))
  rw [hcv2] at WI
  have KK := Lib.hid (fun W (h : SomT w W 3 (i : Int) t x [.bool b0, .bool b1, .bool b2, .bool b3, .bool b4, .bool b5, .bool b6, .bool b7, .slice B n (cv - 1)] y1 y2) => (show W.cell? ⟨w.heap.size, 1, none⟩ = some (.int .i64 (i : Int)) ∧ W.cell? ⟨w.heap.size + 1 + 1, 0, none⟩ = some (.bool b0) ∧ W.cell? ⟨w.heap.size + 1 + 1, 1, none⟩ = some (.bool b1) ∧ W.cell? ⟨w.heap.size + 1 + 1, 2, none⟩ = some (.bool b2) ∧ W.cell? ⟨w.heap.size + 1 + 1, 3, none⟩ = some (.bool b3) ∧ W.cell? ⟨w.heap.size + 1 + 1, 4, none⟩ = some (.bool b4) ∧ W.cell? ⟨w.heap.size + 1 + 1, 5, none⟩ = some (.bool b5) ∧ W.cell? ⟨w.heap.size + 1 + 1, 6, none⟩ = some (.bool b6) ∧ W.cell? ⟨w.heap.size + 1 + 1, 7, none⟩ = some (.bool b7) ∧ W.cell? ⟨w.heap.size + 1 + 1, 8, none⟩ = some (.slice B n (cv - 1)) ∧ W.cell? ⟨w.heap.size + 1 + 1 + 1, 0, none⟩ = some (.int .i64 y1) ∧ W.cell? ⟨w.heap.size + 1 + 1 + 1, 1, none⟩ = some (.int .i64 y2) ∧ SomT w W 3 (i : Int) t x [.bool b0, .bool b1, .bool b2, .bool b3, .bool b4, .bool b5, .bool b6, .bool b7, .slice B n (cv - 1)] y1 y2 from ⟨h.base.op.cell 1, h.base.core.cell 0, h.base.core.cell 1, h.base.core.cell 2, h.base.core.cell 3, h.base.core.cell 4, h.base.core.cell 5, h.base.core.cell 6, h.base.core.cell 7, h.base.core.cell 8, h.itm.cell 0, h.itm.cell 1, h⟩))
  clear hcv2 hk2 hlit2 hq hbs
  rw [hC]
  clear hC
  unfold opV9
  go_enter Try.func10, Try.ntmps10
  go_wp2_with (go_at_call 23; refine (H1 _).out.mono ?_; rintro e w2 ⟨rfl, rfl⟩)
  have s0 : SomT w _ 3 (i : Int) t x _ y1 y2 := ⟨D1.out, HT1.out⟩
  generalize (((w.alloc (.cells #[.int .i64 3, .int .i64 (i : Int), .int .i64 t, .int .i64 x] 30)).alloc (.cells #[.int .i64 0, .int .i64 0] 32)).alloc (.cells #[.bool b0, .bool b1, .bool b2, .bool b3, .bool b4, .bool b5, .bool b6, .bool b7, .slice B n (cv - 1)] 40)).alloc (.cells #[.int .i64 y1, .int .i64 y2] 32) = w3 at s0 ⊢
  clear hD0 x0 x1 x2 x3 x4 x5 x6 x7 x8 D1 HT1 l0 l1
  go_region_held3 (fun W => W.cell? ⟨w.heap.size, 1, none⟩ = some (.int .i64 (i : Int)) ∧ W.cell? ⟨w.heap.size + 1 + 1, 0, none⟩ = some (.bool b0) ∧ W.cell? ⟨w.heap.size + 1 + 1, 1, none⟩ = some (.bool b1) ∧ W.cell? ⟨w.heap.size + 1 + 1, 2, none⟩ = some (.bool b2) ∧ W.cell? ⟨w.heap.size + 1 + 1, 3, none⟩ = some (.bool b3) ∧ W.cell? ⟨w.heap.size + 1 + 1, 4, none⟩ = some (.bool b4) ∧ W.cell? ⟨w.heap.size + 1 + 1, 5, none⟩ = some (.bool b5) ∧ W.cell? ⟨w.heap.size + 1 + 1, 6, none⟩ = some (.bool b6) ∧ W.cell? ⟨w.heap.size + 1 + 1, 7, none⟩ = some (.bool b7) ∧ W.cell? ⟨w.heap.size + 1 + 1, 8, none⟩ = some (.slice B n (cv - 1)) ∧ W.cell? ⟨w.heap.size + 1 + 1 + 1, 0, none⟩ = some (.int .i64 y1) ∧ W.cell? ⟨w.heap.size + 1 + 1 + 1, 1, none⟩ = some (.int .i64 y2) ∧ SomT w W 3 (i : Int) t x [.bool b0, .bool b1, .bool b2, .bool b3, .bool b4, .bool b5, .bool b6, .bool b7, .slice B n (cv - 1)] y1 y2)
    (first | exact KK.out _ (h4.store _ _) | exact KK.out _ h4 | exact KK.out _ (s0.below (below_q _ 1)) | exact KK.out _ s0 | go_keep)
    (first
      | (go_at_call 24; refine (WI.out _ ?_).mono ?_; (go_split_ands; assumption); rintro e w5 ⟨A4, n4, c4, u4, v4, rfl, R4, z0, z1, f0, f1, h4⟩))
  all_goals go_wp2_with fail
  all_goals
    refine bodyPost_ret (v := .tuple #[.slice A4 n4 c4, .agg #[.int .i64 y1, .int .i64 y2], .int .i64 0]) (by simp [results, Try.results10, go_sem, *]) rfl ⟨A4, n4, c4, rfl, R4.out.res _ _, (h4.store _ _).base.bel⟩

theorem rdo9_any (P : Nat → Prop) (ms : List Mail) (v : Value) (K c t x : Int) (w : World) (r : RBox w P ms v) (hx : -9223372036854775808 ≤ x ∧ x ≤ 9223372036854775807) (hP : ∀ b, w.heap.size ≤ b → P b) :
    Calls Try.prog 10 #[v, opV9 K c t x] w (RBoxP P (dMs ms K c t x) (fun b => .tuple #[b, .agg #[.int .i64 (dF ms K c), .int .i64 (dW ms K c)], .int .i64 (dE ms K c t x)]) w) := by
  unfold dMs dF dW dE
  by_cases h0 : K = 0
  · subst h0
    exact rdo9_ring P ms v c t x w r hP
  · have q0 : (K == 0) = false := by simpa using h0
    rw [if_neg h0, if_neg h0, if_neg h0]
    by_cases hc : cIs ms.length c = true
    · obtain ⟨i, e, hi, hm⟩ := core_at hc
      have e2 : c.toNat = i := by omega
      by_cases h2 : K = 2
      · subst h2
        have := rdo9_ack P ms v i _ t x w r hm hP hx
        rw [← e] at this
        unfold akMs cE
        rw [if_pos hc, if_pos hc, e2]
        exact this
      · rw [if_neg h2, if_neg h2]
        by_cases h3 : K = 3
        · subst h3
          unfold tkMs tkF9 tkW9 tkE9
          rw [if_pos rfl, if_pos rfl, if_pos rfl, if_pos rfl, if_pos hc, if_pos hc, if_pos hc, if_pos hc, e2]
          rcases hq : (mAt ms c).2 with _ | ⟨⟨y1, y2⟩, q⟩
          · have := rdo9_none P ms v i _ t x w r hm hP hq
            rw [← e] at this
            have e3 : ms.set i ((mAt ms c).1, ([] : List (Int × Int)).tail) = ms := by
              have : ((mAt ms c).1, ([] : List (Int × Int)).tail) = mAt ms c := Prod.ext rfl hq.symm
              rw [this]
              exact set_same hm
            rw [e3]
            exact this
          · have := rdo9_some P ms v i _ y1 y2 q t x w r hm hP hq
            rw [← e] at this
            exact this
        · rw [if_neg h3, if_neg h3, if_neg h3, if_neg h3]
          by_cases h4 : K = 4
          · subst h4
            have := rdo9_reset P ms v i _ t x w r hm hP
            rw [← e] at this
            unfold rsMs wtV cE
            rw [if_pos rfl, if_pos rfl, if_pos hc, if_pos hc, if_pos hc, e2]
            exact this
          · rw [if_neg h4, if_neg h4]
            have := rdo9_pend P ms v i _ K t x w r hm hP q0 (by simpa using h2) (by simpa using h3) (by simpa using h4)
            rw [← e] at this
            unfold pdV cE
            rw [if_pos hc, if_pos hc]
            exact this
    · have hc' : cIs ms.length c = false := by simpa using hc
      have := rdo9_bad P ms v K c t x w r q0 hc'
      unfold akMs tkMs rsMs tkF9 tkW9 tkE9 wtV pdV cE
      rw [hc']
      simp only [Bool.false_eq_true, if_false, ite_self]
      exact this

#print axioms rdo9_any
end Go.Proofs.Ytfboikefjealfaa
