/-
  The reference of layer 9: Do, kind by kind.
  Conditions: those that each theorem states.
-/
import Derived.Test.YtfboikefjealfaaRMb5
import Derived.Deep.RegionHeld3
namespace Go.Proofs.Ytfboikefjealfaa
open Go.ChangeShapes Go.WideShapes Go.ChangeAt Go.RowKit

/-- What the statements of Do keep: the call, the core, and some item in the result's block. -/
structure DoT (w W : World) (K c t x : Int) (cs : List Value) : Prop where
  bel : Below w.heap.size w W
  op : Row W w.heap.size 30 [.int .i64 K, .int .i64 c, .int .i64 t, .int .i64 x]
  core : Row W (w.heap.size + 1 + 1) 40 cs
  res : ∃ u v, Row W (w.heap.size + 1) 32 [u, v]
theorem DoT.below {w W W' : World} {K c t x : Int} {cs : List Value} (h : DoT w W K c t x cs) (hb : Below W.heap.size W W') : DoT w W' K c t x cs := by
  obtain ⟨u, v, hr⟩ := h.res
  exact ⟨below_on h.bel hb, h.op.below hb, h.core.below hb, u, v, hr.below hb⟩
theorem DoT.store {w W : World} {K c t x : Int} {cs : List Value} (h : DoT w W K c t x cs) (u v : Value) : DoT w ((W.setCell ⟨w.heap.size + 1, 0, none⟩ u).setCell ⟨w.heap.size + 1, 1, none⟩ v) K c t x cs := by
  obtain ⟨u', v', hr⟩ := h.res
  refine ⟨(h.bel.setCell (p := ⟨w.heap.size + 1, 0, none⟩) (by show w.heap.size ≤ w.heap.size + 1; omega) u).setCell (p := ⟨w.heap.size + 1, 1, none⟩) (by show w.heap.size ≤ w.heap.size + 1; omega) v, ?_, ?_, u, v, ?_⟩
  · exact (h.op.far (p := ⟨w.heap.size + 1, 0, none⟩) (by show w.heap.size ≠ w.heap.size + 1; omega) u).far (p := ⟨w.heap.size + 1, 1, none⟩) (by show w.heap.size ≠ w.heap.size + 1; omega) v
  · exact (h.core.far (p := ⟨w.heap.size + 1, 0, none⟩) (by show w.heap.size + 1 + 1 ≠ w.heap.size + 1; omega) u).far (p := ⟨w.heap.size + 1, 1, none⟩) (by show w.heap.size + 1 + 1 ≠ w.heap.size + 1; omega) v
  · exact (hr.put 0 u).put 1 v
theorem RBox.res {w W : World} {P : Nat → Prop} {ms : List Mail} {v : Value} (h : RBox W (fun b => P b ∧ b ≠ w.heap.size + 1) ms v) (u u' : Value) : RBox ((W.setCell ⟨w.heap.size + 1, 0, none⟩ u).setCell ⟨w.heap.size + 1, 1, none⟩ u') P ms v :=
  (h.only (S := fun b => b = w.heap.size + 1) ((only_put W (w.heap.size + 1) 0 u).trans (only_put _ (w.heap.size + 1) 1 u')) (fun _ e hp => hp.2 e)).weak (fun _ _ hp => hp.1)

set_option maxRecDepth 100000 in
set_option maxHeartbeats 2000000 in
theorem rdo9_ring (P : Nat → Prop) (ms : List Mail) (v : Value) (c t x : Int) (w : World) (r : RBox w P ms v) (hP : ∀ b, w.heap.size ≤ b → P b) :
    Calls Try.prog 10 #[v, opV9 0 c t x] w (RBoxP P (rgMs ms c t x) (fun b => .tuple #[b, .agg #[.int .i64 0, .int .i64 0], .int .i64 (rgErr ms c t x)]) w) := by
  have r := r.weak (Q := fun b => P b ∧ b ≠ w.heap.size + 1) (fun g hg h => ⟨h, by omega⟩)
  have hb0 := below_on (below_al w (.cells #[.int .i64 0, .int .i64 c, .int .i64 t, .int .i64 x] 30)) (below_al _ (.cells #[.int .i64 0, .int .i64 0] 32))
  have I0 := Row.new (w.alloc (.cells #[.int .i64 0, .int .i64 c, .int .i64 t, .int .i64 x] 30)) 32 #[.int .i64 0, .int .i64 0]
  rw [size_al] at I0
  have RG := rring9_any (fun b => P b ∧ b ≠ w.heap.size + 1) ms v c t x _ (r.below hb0) (fun b hb => by simp at hb; exact ⟨hP b (by omega), by omega⟩)
  obtain ⟨Z, hZ⟩ : ∃ Z, rgErr ms c t x = Z := ⟨_, rfl⟩
  rw [hZ] at RG ⊢
  obtain ⟨A, k, rfl⟩ := r.open_
  have HRG := Lib.hid RG
  have HI := Lib.hid I0
  have HB := Lib.hid hb0
  clear r hP hb0 I0 RG hZ
  unfold opV9
  go_enter Try.func10, Try.ntmps10
  go_wp2_with (go_at_call 22; refine HRG.out.mono ?_; rintro e w2 ⟨A2, n2, c2, rfl, hr2, hb2⟩; dsimp only; have I2 := HI.out.below hb2; have x0 := I2.cell 0; have x1 := I2.cell 1; have y0 := I2.soft 0; have y1 := I2.soft 1; simp only [List.getElem?_cons_zero, List.getElem?_cons_succ] at x0 x1; have HR2 := Lib.hid hr2; have HB2 := Lib.hid (below_on HB.out hb2); clear hr2 hb2 I2)
  exact bodyPost_ret (v := .tuple #[.slice A2 n2 c2, .agg #[.int .i64 0, .int .i64 0], .int .i64 Z]) (by simp [results, Try.results10, go_sem, *]) rfl ⟨A2, n2, c2, rfl, HR2.out.res _ _, (HB2.out.setCell (p := ⟨w.heap.size + 1, 0, none⟩) (by show w.heap.size ≤ w.heap.size + 1; omega) _).setCell (p := ⟨w.heap.size + 1, 1, none⟩) (by show w.heap.size ≤ w.heap.size + 1; omega) _⟩

set_option maxRecDepth 100000 in
set_option maxHeartbeats 2000000 in
theorem rdo9_bad (P : Nat → Prop) (ms : List Mail) (v : Value) (K c t x : Int) (w : World) (r : RBox w P ms v) (b0 : (K == 0) = false) (hc : cIs ms.length c = false) :
    Calls Try.prog 10 #[v, opV9 K c t x] w (RBoxP P ms (fun b => .tuple #[b, .agg #[.int .i64 0, .int .i64 0], .int .i64 3]) w) := by
  have r := r.weak (Q := fun b => P b ∧ b ≠ w.heap.size + 1) (fun g hg h => ⟨h, by omega⟩)
  have hb0 := below_on (below_al w (.cells #[.int .i64 K, .int .i64 c, .int .i64 t, .int .i64 x] 30)) (below_al _ (.cells #[.int .i64 0, .int .i64 0] 32))
  obtain ⟨A, k, rfl⟩ := r.open_
  have H1 := fun W => Lib.hid (rhas9 A ms.length k c W)
  rw [hc] at H1
  have R := Lib.hid (r.below hb0)
  have HB := Lib.hid hb0
  obtain ⟨C, hC⟩ : ∃ C, ms.length = C := ⟨_, rfl⟩
  rw [hC] at H1 R ⊢
  have HC := Lib.hid hC
  clear r hb0 hC hc
  unfold opV9
  go_enter Try.func10, Try.ntmps10
  go_wp2_with (go_at_call 23; refine (H1 _).out.mono ?_; rintro e w2 ⟨rfl, rfl⟩)
  exact bodyPost_ret (v := .tuple #[.slice A C k, .agg #[.int .i64 0, .int .i64 0], .int .i64 3]) (by simp [results, Try.results10, go_sem, *]) rfl ⟨A, C, k, rfl, R.out.weak (fun _ _ h => h.1), HB.out⟩

set_option maxRecDepth 100000 in
set_option maxHeartbeats 4000000 in
theorem rdo9_ack (P : Nat → Prop) (ms : List Mail) (v : Value) (i : Nat) (m : Mail) (t x : Int) (w : World) (r : RBox w P ms v) (hm : ms[i]? = some m) (hP : ∀ b, w.heap.size ≤ b → P b) (hx : -9223372036854775808 ≤ x ∧ x ≤ 9223372036854775807) :
    Calls Try.prog 10 #[v, opV9 2 (i : Int) t x] w (RBoxP P (ms.set i (clrB m.1 x, m.2)) (fun b => .tuple #[b, .agg #[.int .i64 0, .int .i64 0], .int .i64 0]) w) := by
  have hi := lt_of_at hm
  have hk := r.ok i m hm
  have r := r.weak (Q := fun b => P b ∧ b ≠ w.heap.size + 1) (fun g hg h => ⟨h, by omega⟩)
  have HP : Hid (∀ b, w.heap.size + 1 + 1 ≤ b → P b ∧ b ≠ w.heap.size + 1) := Lib.hid (fun b hb => ⟨hP b (by omega), by omega⟩)
  obtain ⟨A, k, rfl⟩ := r.open_
  obtain ⟨g, o, lv, rfl, hPg, hgl, hcell, hv, hcv⟩ := r.core hm
  obtain ⟨Av, nv, cv, rfl, HNV, HV⟩ := hv.open_
  obtain ⟨b0, b1, b2, b3, b4, b5, b6, b7, hbs⟩ := bools8 hk.len
  have hlit := rcL_lit hbs (.slice Av nv cv)
  rw [hlit] at hcell
  have HNQ : Hid (m.2.length = nv) := Lib.hid (by have := HNV.out; rwa [its_len] at this)
  have H1 := fun W => Lib.hid (rhas9 (some ⟨g, o, none⟩) ms.length k (i : Int) W)
  rw [cIs_nat hi] at H1
  have x0 := hcell 0 _ rfl
  have x1 := hcell 1 _ rfl
  have x2 := hcell 2 _ rfl
  have x3 := hcell 3 _ rfl
  have x4 := hcell 4 _ rfl
  have x5 := hcell 5 _ rfl
  have x6 := hcell 6 _ rfl
  have x7 := hcell 7 _ rfl
  have x8 := hcell 8 _ rfl
  rw [Nat.add_zero] at x0
  have hg1 : g ≠ w.heap.size := by omega
  have hg2 : g ≠ w.heap.size + 1 := by omega
  have hcvv : coreV m (.slice Av nv cv) = .agg #[.bool b0, .bool b1, .bool b2, .bool b3, .bool b4, .bool b5, .bool b6, .bool b7, .slice Av nv cv] := by unfold coreV; rw [hlit]
  have D0 : DoT w (((w.alloc (.cells #[.int .i64 2, .int .i64 (i : Int), .int .i64 t, .int .i64 x] 30)).alloc (.cells #[.int .i64 0, .int .i64 0] 32)).alloc (.cells #[.bool b0, .bool b1, .bool b2, .bool b3, .bool b4, .bool b5, .bool b6, .bool b7, .slice Av nv cv] 40)) 2 (i : Int) t x [.bool b0, .bool b1, .bool b2, .bool b3, .bool b4, .bool b5, .bool b6, .bool b7, .slice Av nv cv] := by
    have h1 := Row.new (w.alloc (.cells #[.int .i64 2, .int .i64 (i : Int), .int .i64 t, .int .i64 x] 30)) 32 #[.int .i64 0, .int .i64 0]
    have h2 := Row.new ((w.alloc (.cells #[.int .i64 2, .int .i64 (i : Int), .int .i64 t, .int .i64 x] 30)).alloc (.cells #[.int .i64 0, .int .i64 0] 32)) 40 #[.bool b0, .bool b1, .bool b2, .bool b3, .bool b4, .bool b5, .bool b6, .bool b7, .slice Av nv cv]
    simp only [size_al] at h1 h2
    exact ⟨below_on (below_on (below_al _ _) (below_al _ _)) (below_al _ _), ((Row.new w 30 #[.int .i64 2, .int .i64 (i : Int), .int .i64 t, .int .i64 x]).below (below_al _ _)).below (below_al _ _), h2, _, _, h1.below (below_al _ _)⟩
  have R := Lib.hid r
  have HK := Lib.hid hk
  have HCV := Lib.hid hcv
  have HI := Lib.hid hi
  have HM := Lib.hid hm
  have HCVV := Lib.hid hcvv
  have hmost := r.most
  obtain ⟨C, hC⟩ : ∃ C, ms.length = C := ⟨_, rfl⟩
  have HC := Lib.hid hC
  have R0 := Lib.hid r
  rw [hC] at H1 R0 hi hmost
  rw [hC] at R
  have hD0 := Lib.hid D0
  clear r hk hcell hv hcv hm hcvv hlit hP D0
  obtain ⟨c0, c1, c2, c3, c4, c5, c6, c7, hcs⟩ := bools8 (l := clrB m.1 x) (by rw [clrB_len]; exact HK.out.len)
  have hcv2 : coreV (clrB m.1 x, m.2) (.slice Av nv cv) = .agg #[.bool c0, .bool c1, .bool c2, .bool c3, .bool c4, .bool c5, .bool c6, .bool c7, .slice Av nv cv] := by unfold coreV; rw [rcL_lit (m := (clrB m.1 x, m.2)) hcs]
  have hk2 : MailOk (clrB m.1 x, m.2) := ⟨by rw [clrB_len]; exact HK.out.len, HK.out.fit, HK.out.low⟩
  have AC := Lib.hid (fun W (h : DoT w W 2 (i : Int) t x [.bool b0, .bool b1, .bool b2, .bool b3, .bool b4, .bool b5, .bool b6, .bool b7, .slice Av nv cv]) => (rack9 m Av nv cv x W HK.out hx).mono (R' := fun e w' => e = .returned (coreV (clrB m.1 x, m.2) (.slice Av nv cv)) ∧ DoT w w' 2 (i : Int) t x [.bool b0, .bool b1, .bool b2, .bool b3, .bool b4, .bool b5, .bool b6, .bool b7, .slice Av nv cv]) (fun e w' ⟨he, hb⟩ => ⟨he, h.below hb⟩))
  rw [HCVV.out, hcv2] at AC
  have WI := Lib.hid (fun W (h : DoT w W 2 (i : Int) t x [.bool b0, .bool b1, .bool b2, .bool b3, .bool b4, .bool b5, .bool b6, .bool b7, .slice Av nv cv]) => (rwith9 (fun b => P b ∧ b ≠ w.heap.size + 1) ms (.slice (some ⟨g, o, none⟩) C k) (.slice Av nv cv) i (clrB m.1 x, m.2) W (by have := R.out; exact this.below h.bel) HI.out hk2 (HV.out.below h.bel) HCV.out (fun b hb' => HP.out b (by have := h.core.lt; omega))).mono (R' := fun e w' => ∃ A4 n4 c4 u v, e = .returned (.slice A4 n4 c4) ∧ Hid (RBox w' (fun b => P b ∧ b ≠ w.heap.size + 1) (ms.set i (clrB m.1 x, m.2)) (.slice A4 n4 c4)) ∧ w'.cell? ⟨w.heap.size + 1, 0, none⟩ = some u ∧ w'.cell? ⟨w.heap.size + 1, 1, none⟩ = some v ∧ w'.frozen? ⟨w.heap.size + 1, 0, none⟩ = false ∧ w'.frozen? ⟨w.heap.size + 1, 1, none⟩ = false ∧ DoT w w' 2 (i : Int) t x [.bool b0, .bool b1, .bool b2, .bool b3, .bool b4, .bool b5, .bool b6, .bool b7, .slice Av nv cv]) (fun e w' ⟨A4, n4, c4, he, hr4, hb4⟩ => by
    have h4 := h.below hb4
    obtain ⟨u, v, hr⟩ := h4.res
    exact ⟨A4, n4, c4, u, v, he, hr4, hr.cell 0, hr.cell 1, hr.soft 0, hr.soft 1, h4⟩))
  rw [hcv2] at WI
  have KK := Lib.hid (fun W (h : DoT w W 2 (i : Int) t x [.bool b0, .bool b1, .bool b2, .bool b3, .bool b4, .bool b5, .bool b6, .bool b7, .slice Av nv cv]) => (show W.cell? ⟨w.heap.size, 1, none⟩ = some (.int .i64 (i : Int)) ∧ W.cell? ⟨w.heap.size, 3, none⟩ = some (.int .i64 x) ∧ W.cell? ⟨w.heap.size + 1 + 1, 0, none⟩ = some (.bool b0) ∧ W.cell? ⟨w.heap.size + 1 + 1, 1, none⟩ = some (.bool b1) ∧ W.cell? ⟨w.heap.size + 1 + 1, 2, none⟩ = some (.bool b2) ∧ W.cell? ⟨w.heap.size + 1 + 1, 3, none⟩ = some (.bool b3) ∧ W.cell? ⟨w.heap.size + 1 + 1, 4, none⟩ = some (.bool b4) ∧ W.cell? ⟨w.heap.size + 1 + 1, 5, none⟩ = some (.bool b5) ∧ W.cell? ⟨w.heap.size + 1 + 1, 6, none⟩ = some (.bool b6) ∧ W.cell? ⟨w.heap.size + 1 + 1, 7, none⟩ = some (.bool b7) ∧ W.cell? ⟨w.heap.size + 1 + 1, 8, none⟩ = some (.slice Av nv cv) ∧ DoT w W 2 (i : Int) t x [.bool b0, .bool b1, .bool b2, .bool b3, .bool b4, .bool b5, .bool b6, .bool b7, .slice Av nv cv] from ⟨h.op.cell 1, h.op.cell 3, h.core.cell 0, h.core.cell 1, h.core.cell 2, h.core.cell 3, h.core.cell 4, h.core.cell 5, h.core.cell 6, h.core.cell 7, h.core.cell 8, h⟩))
  clear hcs hcv2 hk2
  rw [hC]
  clear hC
  unfold opV9
  go_enter Try.func10, Try.ntmps10
  go_wp2_with (go_at_call 23; refine (H1 _).out.mono ?_; rintro e w2 ⟨rfl, rfl⟩)
  have d0 := hD0.out
  generalize ((w.alloc (.cells #[.int .i64 2, .int .i64 (i : Int), .int .i64 t, .int .i64 x] 30)).alloc (.cells #[.int .i64 0, .int .i64 0] 32)).alloc (.cells #[.bool b0, .bool b1, .bool b2, .bool b3, .bool b4, .bool b5, .bool b6, .bool b7, .slice Av nv cv] 40) = w3 at d0 ⊢
  clear hD0 x0 x1 x2 x3 x4 x5 x6 x7 x8
  go_region_held3 (fun W => W.cell? ⟨w.heap.size, 1, none⟩ = some (.int .i64 (i : Int)) ∧ W.cell? ⟨w.heap.size, 3, none⟩ = some (.int .i64 x) ∧ W.cell? ⟨w.heap.size + 1 + 1, 0, none⟩ = some (.bool b0) ∧ W.cell? ⟨w.heap.size + 1 + 1, 1, none⟩ = some (.bool b1) ∧ W.cell? ⟨w.heap.size + 1 + 1, 2, none⟩ = some (.bool b2) ∧ W.cell? ⟨w.heap.size + 1 + 1, 3, none⟩ = some (.bool b3) ∧ W.cell? ⟨w.heap.size + 1 + 1, 4, none⟩ = some (.bool b4) ∧ W.cell? ⟨w.heap.size + 1 + 1, 5, none⟩ = some (.bool b5) ∧ W.cell? ⟨w.heap.size + 1 + 1, 6, none⟩ = some (.bool b6) ∧ W.cell? ⟨w.heap.size + 1 + 1, 7, none⟩ = some (.bool b7) ∧ W.cell? ⟨w.heap.size + 1 + 1, 8, none⟩ = some (.slice Av nv cv) ∧ DoT w W 2 (i : Int) t x [.bool b0, .bool b1, .bool b2, .bool b3, .bool b4, .bool b5, .bool b6, .bool b7, .slice Av nv cv])
    (first | exact KK.out _ (h4.store _ _) | exact KK.out _ h4 | exact KK.out _ h3 | exact KK.out _ (d0.below (below_q _ 1)) | exact KK.out _ d0 | go_keep)
    (first
      | (go_at_call 25; refine (AC.out _ ?_).mono ?_; (go_split_ands; assumption); rintro e w4 ⟨rfl, h3⟩)
      | (go_at_call 24; refine (WI.out _ ?_).mono ?_; (go_split_ands; assumption); rintro e w5 ⟨A4, n4, c4, u4, v4, rfl, R4, y0, y1, f0, f1, h4⟩))
  all_goals go_wp2_with fail
  all_goals
    refine bodyPost_ret (v := .tuple #[.slice A4 n4 c4, .agg #[.int .i64 0, .int .i64 0], .int .i64 0]) (by simp [results, Try.results10, go_sem, *]) rfl ⟨A4, n4, c4, rfl, R4.out.res _ _, (h4.store _ _).bel⟩

set_option maxRecDepth 100000 in
set_option maxHeartbeats 4000000 in
theorem rdo9_reset (P : Nat → Prop) (ms : List Mail) (v : Value) (i : Nat) (m : Mail) (t x : Int) (w : World) (r : RBox w P ms v) (hm : ms[i]? = some m) (hP : ∀ b, w.heap.size ≤ b → P b) :
    Calls Try.prog 10 #[v, opV9 4 (i : Int) t x] w (RBoxP P (ms.set i mail0) (fun b => .tuple #[b, .agg #[.int .i64 0, .int .i64 m.2.length], .int .i64 0]) w) := by
  have hi := lt_of_at hm
  have hk := r.ok i m hm
  have r := r.weak (Q := fun b => P b ∧ b ≠ w.heap.size + 1) (fun g hg h => ⟨h, by omega⟩)
  have HP : Hid (∀ b, w.heap.size + 1 + 1 ≤ b → P b ∧ b ≠ w.heap.size + 1) := Lib.hid (fun b hb => ⟨hP b (by omega), by omega⟩)
  obtain ⟨A, k, rfl⟩ := r.open_
  obtain ⟨g, o, lv, rfl, hPg, hgl, hcell, hv, hcv⟩ := r.core hm
  obtain ⟨Av, nv, cv, rfl, HNV, HV⟩ := hv.open_
  obtain ⟨b0, b1, b2, b3, b4, b5, b6, b7, hbs⟩ := bools8 hk.len
  have hlit := rcL_lit hbs (.slice Av nv cv)
  rw [hlit] at hcell
  have HNQ : Hid (m.2.length = nv) := Lib.hid (by have := HNV.out; rwa [its_len] at this)
  have H1 := fun W => Lib.hid (rhas9 (some ⟨g, o, none⟩) ms.length k (i : Int) W)
  rw [cIs_nat hi] at H1
  have x0 := hcell 0 _ rfl
  have x1 := hcell 1 _ rfl
  have x2 := hcell 2 _ rfl
  have x3 := hcell 3 _ rfl
  have x4 := hcell 4 _ rfl
  have x5 := hcell 5 _ rfl
  have x6 := hcell 6 _ rfl
  have x7 := hcell 7 _ rfl
  have x8 := hcell 8 _ rfl
  rw [Nat.add_zero] at x0
  have hg1 : g ≠ w.heap.size := by omega
  have hg2 : g ≠ w.heap.size + 1 := by omega
  have hcvv : coreV m (.slice Av nv cv) = .agg #[.bool b0, .bool b1, .bool b2, .bool b3, .bool b4, .bool b5, .bool b6, .bool b7, .slice Av nv cv] := by unfold coreV; rw [hlit]
  have D0 : DoT w (((w.alloc (.cells #[.int .i64 4, .int .i64 (i : Int), .int .i64 t, .int .i64 x] 30)).alloc (.cells #[.int .i64 0, .int .i64 0] 32)).alloc (.cells #[.bool b0, .bool b1, .bool b2, .bool b3, .bool b4, .bool b5, .bool b6, .bool b7, .slice Av nv cv] 40)) 4 (i : Int) t x [.bool b0, .bool b1, .bool b2, .bool b3, .bool b4, .bool b5, .bool b6, .bool b7, .slice Av nv cv] := by
    have h1 := Row.new (w.alloc (.cells #[.int .i64 4, .int .i64 (i : Int), .int .i64 t, .int .i64 x] 30)) 32 #[.int .i64 0, .int .i64 0]
    have h2 := Row.new ((w.alloc (.cells #[.int .i64 4, .int .i64 (i : Int), .int .i64 t, .int .i64 x] 30)).alloc (.cells #[.int .i64 0, .int .i64 0] 32)) 40 #[.bool b0, .bool b1, .bool b2, .bool b3, .bool b4, .bool b5, .bool b6, .bool b7, .slice Av nv cv]
    simp only [size_al] at h1 h2
    exact ⟨below_on (below_on (below_al _ _) (below_al _ _)) (below_al _ _), ((Row.new w 30 #[.int .i64 4, .int .i64 (i : Int), .int .i64 t, .int .i64 x]).below (below_al _ _)).below (below_al _ _), h2, _, _, h1.below (below_al _ _)⟩
  have R := Lib.hid r
  have HK := Lib.hid hk
  have HCV := Lib.hid hcv
  have HI := Lib.hid hi
  have HM := Lib.hid hm
  have HCVV := Lib.hid hcvv
  have hmost := r.most
  obtain ⟨C, hC⟩ : ∃ C, ms.length = C := ⟨_, rfl⟩
  have HC := Lib.hid hC
  have R0 := Lib.hid r
  rw [hC] at H1 R0 hi hmost
  rw [hC] at R
  have hD0 := Lib.hid D0
  clear r hk hcell hv hcv hm hcvv hlit hP D0
  have hcv2 : coreV mail0 (.slice none 0 0) = .agg #[.bool false, .bool false, .bool false, .bool false, .bool false, .bool false, .bool false, .bool false, .slice none 0 0] := rfl
  have WI := Lib.hid (fun W (h : DoT w W 4 (i : Int) t x [.bool b0, .bool b1, .bool b2, .bool b3, .bool b4, .bool b5, .bool b6, .bool b7, .slice Av nv cv]) => (rwith9 (fun b => P b ∧ b ≠ w.heap.size + 1) ms (.slice (some ⟨g, o, none⟩) C k) (.slice none 0 0) i mail0 W (by have := R.out; exact this.below h.bel) HI.out mail0_ok (Two.nil_ _ _) rfl (fun b hb' => HP.out b (by have := h.core.lt; omega))).mono (R' := fun e w' => ∃ A4 n4 c4 u v, e = .returned (.slice A4 n4 c4) ∧ Hid (RBox w' (fun b => P b ∧ b ≠ w.heap.size + 1) (ms.set i mail0) (.slice A4 n4 c4)) ∧ w'.cell? ⟨w.heap.size + 1, 0, none⟩ = some u ∧ w'.cell? ⟨w.heap.size + 1, 1, none⟩ = some v ∧ w'.frozen? ⟨w.heap.size + 1, 0, none⟩ = false ∧ w'.frozen? ⟨w.heap.size + 1, 1, none⟩ = false ∧ DoT w w' 4 (i : Int) t x [.bool b0, .bool b1, .bool b2, .bool b3, .bool b4, .bool b5, .bool b6, .bool b7, .slice Av nv cv]) (fun e w' ⟨A4, n4, c4, he, hr4, hb4⟩ => by
    have h4 := h.below hb4
    obtain ⟨u, v, hr⟩ := h4.res
    exact ⟨A4, n4, c4, u, v, he, hr4, hr.cell 0, hr.cell 1, hr.soft 0, hr.soft 1, h4⟩))
  rw [hcv2] at WI
  have KK := Lib.hid (fun W (h : DoT w W 4 (i : Int) t x [.bool b0, .bool b1, .bool b2, .bool b3, .bool b4, .bool b5, .bool b6, .bool b7, .slice Av nv cv]) => (show W.cell? ⟨w.heap.size, 1, none⟩ = some (.int .i64 (i : Int)) ∧ W.cell? ⟨w.heap.size + 1 + 1, 0, none⟩ = some (.bool b0) ∧ W.cell? ⟨w.heap.size + 1 + 1, 1, none⟩ = some (.bool b1) ∧ W.cell? ⟨w.heap.size + 1 + 1, 2, none⟩ = some (.bool b2) ∧ W.cell? ⟨w.heap.size + 1 + 1, 3, none⟩ = some (.bool b3) ∧ W.cell? ⟨w.heap.size + 1 + 1, 4, none⟩ = some (.bool b4) ∧ W.cell? ⟨w.heap.size + 1 + 1, 5, none⟩ = some (.bool b5) ∧ W.cell? ⟨w.heap.size + 1 + 1, 6, none⟩ = some (.bool b6) ∧ W.cell? ⟨w.heap.size + 1 + 1, 7, none⟩ = some (.bool b7) ∧ W.cell? ⟨w.heap.size + 1 + 1, 8, none⟩ = some (.slice Av nv cv) ∧ DoT w W 4 (i : Int) t x [.bool b0, .bool b1, .bool b2, .bool b3, .bool b4, .bool b5, .bool b6, .bool b7, .slice Av nv cv] from ⟨h.op.cell 1, h.core.cell 0, h.core.cell 1, h.core.cell 2, h.core.cell 3, h.core.cell 4, h.core.cell 5, h.core.cell 6, h.core.cell 7, h.core.cell 8, h⟩))
  clear hcv2
  rw [HNQ.out]
  rw [hC]
  clear hC
  unfold opV9
  go_enter Try.func10, Try.ntmps10
  go_wp2_with (go_at_call 23; refine (H1 _).out.mono ?_; rintro e w2 ⟨rfl, rfl⟩)
  have d0 := hD0.out
  generalize ((w.alloc (.cells #[.int .i64 4, .int .i64 (i : Int), .int .i64 t, .int .i64 x] 30)).alloc (.cells #[.int .i64 0, .int .i64 0] 32)).alloc (.cells #[.bool b0, .bool b1, .bool b2, .bool b3, .bool b4, .bool b5, .bool b6, .bool b7, .slice Av nv cv] 40) = w3 at d0 ⊢
  clear hD0 x0 x1 x2 x3 x4 x5 x6 x7 x8
  go_region_held3 (fun W => W.cell? ⟨w.heap.size, 1, none⟩ = some (.int .i64 (i : Int)) ∧ W.cell? ⟨w.heap.size + 1 + 1, 0, none⟩ = some (.bool b0) ∧ W.cell? ⟨w.heap.size + 1 + 1, 1, none⟩ = some (.bool b1) ∧ W.cell? ⟨w.heap.size + 1 + 1, 2, none⟩ = some (.bool b2) ∧ W.cell? ⟨w.heap.size + 1 + 1, 3, none⟩ = some (.bool b3) ∧ W.cell? ⟨w.heap.size + 1 + 1, 4, none⟩ = some (.bool b4) ∧ W.cell? ⟨w.heap.size + 1 + 1, 5, none⟩ = some (.bool b5) ∧ W.cell? ⟨w.heap.size + 1 + 1, 6, none⟩ = some (.bool b6) ∧ W.cell? ⟨w.heap.size + 1 + 1, 7, none⟩ = some (.bool b7) ∧ W.cell? ⟨w.heap.size + 1 + 1, 8, none⟩ = some (.slice Av nv cv) ∧ DoT w W 4 (i : Int) t x [.bool b0, .bool b1, .bool b2, .bool b3, .bool b4, .bool b5, .bool b6, .bool b7, .slice Av nv cv])
    (first | exact KK.out _ (h4.store _ _) | exact KK.out _ h4 | exact KK.out _ (d0.below (below_q _ 1)) | exact KK.out _ d0 | go_keep)
    (first
      | (go_at_call 24; refine (WI.out _ ?_).mono ?_; (go_split_ands; assumption); rintro e w5 ⟨A4, n4, c4, u4, v4, rfl, R4, y0, y1, f0, f1, h4⟩))
  all_goals go_wp2_with fail
  all_goals
    refine bodyPost_ret (v := .tuple #[.slice A4 n4 c4, .agg #[.int .i64 0, .int .i64 nv], .int .i64 0]) (by simp [results, Try.results10, go_sem, *]) rfl ⟨A4, n4, c4, rfl, R4.out.res _ _, (h4.store _ _).bel⟩

#print axioms rdo9_ring
#print axioms rdo9_bad
#print axioms rdo9_ack
#print axioms rdo9_reset
end Go.Proofs.Ytfboikefjealfaa
