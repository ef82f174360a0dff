/-
  Texts merged, with what one theorem needs of them.
  Conditions: those that each theorem states.
-/
import Derived.Test.YteipocjgmgaglaaDoorRows
import Derived.Test.YteipocjgmgaglaaDoorZ1
import Derived.Test.YteipocjgmgaglaaDoorZ2
import Derived.Test.YteipocjgmgaglaaDoorZ3
import Derived.Test.YteipocjgmgaglaaDoorZ4
import Derived.Test.YteipocjgmgaglaaDoorZ5
import Derived.Test.YteipocjgmgaglaaDoorZ6
import Derived.Test.YteipocjgmgaglaaDoorZ7
import Derived.Test.YteipocjgmgaglaaDoorZ8
import Derived.Test.YteipocjgmgaglaaDoorZ9
import Derived.Test.YteipocjgmgaglaaDoorZ10
import Derived.Test.YteipocjgmgaglaaDoorZ11
import Derived.Test.YteipocjgmgaglaaDoorZ12
import Derived.Test.YteipocjgmgaglaaDoorZ13
import Derived.Test.YteipocjgmgaglaaDoorZ14
import Derived.Test.YteipocjgmgaglaaDoorZ15
import Derived.Test.YteipocjgmgaglaaDoorZ16
import Derived.Test.YteipocjgmgaglaaDoorZ17
import Derived.Test.YteipocjgmgaglaaDoorZ18
import Derived.Test.YteipocjgmgaglaaDoorZ19
import Derived.Below
import Derived.BigQuiet
import Derived.Deep.AppendLies
import Derived.Deep.DeepMust
import Derived.Deep.Draws
import Derived.Deep.MidRow
import Derived.Deep.OwnRows
import Derived.Deep.QuietTactic
import Derived.Deep.RegionHeld3
import Derived.Deep.RegionLaw
import Derived.Deep.RegionWith
import Derived.Defers
import Derived.Great.BuildSlice
import Derived.Handy
import Derived.IntWalk
import Derived.KernelRfl
import Derived.LaidLaws
import Derived.LaidMore
import Derived.Laws.BitsLemmas
import Derived.Laws.CopyOwn
import Derived.Laws.OwnMore
import Derived.Laws.Rows
import Derived.Lib.Hide
import Derived.Lib.SliceRun
import Derived.MakeChecks
import Derived.Maps.AppendAt
import Derived.OpenShut
import Derived.ProofKit
import Derived.Recover
import Derived.RegionTactic
import Derived.Scope
import Derived.WalkKit
import Derived.WalkMore
namespace Go.Proofs.YteipocjgmgaglaaDoor

section
open Go.ChangeShapes Go.WideShapes Go.ChangeAt Go.RowKit
def tcC (κ i u : Int) : List Value := [.int .i64 κ, .int .i64 i, .int .i64 u]
theorem rt_size : (Tryd.prog.info? 50).map (·.size) = some 3 := by kernel_rfl
theorem rt_zero : (Tryd.prog.info? 50).map (·.zero) = some (some (.agg (tcC 0 0 0).toArray)) := by kernel_rfl
theorem rt_struct : isStruct Tryd.prog 50 = true := by kernel_rfl
theorem rt_one (κ i u : Int) : ∀ v ∈ tcC κ i u, v.oneCell' = true := by
  intro v hv
  simp [tcC] at hv
  rcases hv with rfl | rfl | rfl <;> rfl
theorem rt_results {fn : Func} {s : Tmp} (h : fn.results = #[.cell s 50]) {tmps : Array Value} {w : World} {b : Nat} (hs : tmps.getD s undef = .pointer (some ⟨b, 0, none⟩)) {κ i u : Int} (hg : Row w b 50 (tcC κ i u)) :
    (results fn tmps).run Tryd.prog w = .ok (touchV κ i u) w := by
  have hl := run_loadVar_cells (P := Tryd.prog) w 50 ⟨b, 0, none⟩ (tcC κ i u) rt_struct (rt_size.trans (congrArg some rfl)) (fun j v hv => by rw [Addr.add_lit, Nat.zero_add, hg.cell]; exact hv)
  have hs' : tmps[s]?.getD undef = .pointer (some ⟨b, 0, none⟩) := by simpa using hs
  simp [results, h, hs', hl, asAddr, touchV, tcC]
section
variable {Af Ao Al : Option Addr} {nf cf no co nl cl : Nat}
set_option maxRecDepth 100000 in
set_option maxHeartbeats 1000000 in
theorem rtch_ask (G : Rv) (w : World) (h : G.at_ = 1) :
    Calls Tryd.prog 36 #[rvV G (.slice Af nf cf) (.slice Ao no co) (.slice Al nl cl)] w fun e w' => e = .returned (touchV 4 G.peer 0) ∧ Below w.heap.size w w' := by
  have HSZ := Lib.hid (fun (H : Rv) (a b c : Value) => (rv_size.trans (congrArg some (rv_len H a b c).symm)))
  have HS3 : Hid ((Tryd.prog.info? 50).map (·.size) = some ([.int .i64 4, .int .i64 G.peer, .int .i64 0] : List Value).length) := Lib.hid rt_size
  have HO3 : Hid (∀ v ∈ ([.int .i64 4, .int .i64 G.peer, .int .i64 0] : List Value), v.oneCell' = true) := Lib.hid (rt_one _ _ _)
  have KAD := Lib.hid (fun W => radd_any G.own G.known W)
  have H1 := Lib.hid h
  clear h
  unfold rvV
  go_enter Tryd.func36, Tryd.ntmps36
  go_wp2_with (first
    | ((with_reducible refine box_walk rfl 35 (.tmp 0) rfl (rvC G (.slice Af nf cf) (.slice Ao no co) (.slice Al nl cl)) rfl ?_); intro w1 r1 b1 z1; have R1 := Lib.hid r1; have B1 := Lib.hid b1; have hlt1 := r1.lt; clear r1 b1 z1)
    | ((with_reducible refine alloc_walk (o := ⟨some 2, _, _, _, _, _⟩) rfl 50 rfl _ rt_zero ?_); go_must (intro w2 r2 b2 z2; have R2 := Lib.hid (R1.out.below b2); have Q2 := Lib.hid r2; have B2 := Lib.hid (below_on B1.out b2); have c3 := R2.out.cell 3; have c4 := R2.out.cell 4; have c5 := R2.out.cell 5; have c11 := R2.out.cell 11; have c15 := R2.out.cell 15; simp only [rvC, List.getElem?_cons_zero, List.getElem?_cons_succ] at c3 c4 c5 c11 c15; rw [H1.out] at c11; clear r2 b2 z2))
    | (go_at_call 48; refine (KAD.out _).mono ?_; rintro e w7 ⟨rfl, rfl⟩)
    | ((with_reducible refine storeRow_walk rfl 50 (.tmp 2) (.tmp 19) rfl w1.heap.size rfl [.int .i64 4, .int .i64 G.peer, .int .i64 0] rfl HS3.out 50 (tcC 0 0 0) Q2.out rfl HO3.out ?_); intro w4 r4 o4 z4; have R4 : Hid (Row w4 w1.heap.size 50 (tcC 4 G.peer 0)) := Lib.hid r4; have B4 := Lib.hid (Only.below B2.out o4 B2.out.size (fun k hk e => by subst e; omega)); clear r4 o4 z4))
  exact bodyPost_ret (rt_results Tryd.results36 rfl R4.out) rfl ⟨rfl, B4.out⟩
set_option maxRecDepth 100000 in
set_option maxHeartbeats 1000000 in
theorem rtch_over (G : Rv) (w : World) (h : G.at_ = 15) :
    Calls Tryd.prog 36 #[rvV G (.slice Af nf cf) (.slice Ao no co) (.slice Al nl cl)] w fun e w' => e = .returned (touchV 4 G.peer 0) ∧ Below w.heap.size w w' := by
  have HSZ := Lib.hid (fun (H : Rv) (a b c : Value) => (rv_size.trans (congrArg some (rv_len H a b c).symm)))
  have HS3 : Hid ((Tryd.prog.info? 50).map (·.size) = some ([.int .i64 4, .int .i64 G.peer, .int .i64 0] : List Value).length) := Lib.hid rt_size
  have HO3 : Hid (∀ v ∈ ([.int .i64 4, .int .i64 G.peer, .int .i64 0] : List Value), v.oneCell' = true) := Lib.hid (rt_one _ _ _)
  have KAD := Lib.hid (fun W => radd_any G.own G.known W)
  have H1 := Lib.hid h
  clear h
  unfold rvV
  go_enter Tryd.func36, Tryd.ntmps36
  go_wp2_with (first
    | ((with_reducible refine box_walk rfl 35 (.tmp 0) rfl (rvC G (.slice Af nf cf) (.slice Ao no co) (.slice Al nl cl)) rfl ?_); intro w1 r1 b1 z1; have R1 := Lib.hid r1; have B1 := Lib.hid b1; have hlt1 := r1.lt; clear r1 b1 z1)
    | ((with_reducible refine alloc_walk (o := ⟨some 2, _, _, _, _, _⟩) rfl 50 rfl _ rt_zero ?_); go_must (intro w2 r2 b2 z2; have R2 := Lib.hid (R1.out.below b2); have Q2 := Lib.hid r2; have B2 := Lib.hid (below_on B1.out b2); have c3 := R2.out.cell 3; have c4 := R2.out.cell 4; have c5 := R2.out.cell 5; have c11 := R2.out.cell 11; have c15 := R2.out.cell 15; simp only [rvC, List.getElem?_cons_zero, List.getElem?_cons_succ] at c3 c4 c5 c11 c15; rw [H1.out] at c11; clear r2 b2 z2))
    | (go_at_call 48; refine (KAD.out _).mono ?_; rintro e w7 ⟨rfl, rfl⟩)
    | ((with_reducible refine storeRow_walk rfl 50 (.tmp 2) (.tmp 19) rfl w1.heap.size rfl [.int .i64 4, .int .i64 G.peer, .int .i64 0] rfl HS3.out 50 (tcC 0 0 0) Q2.out rfl HO3.out ?_); intro w4 r4 o4 z4; have R4 : Hid (Row w4 w1.heap.size 50 (tcC 4 G.peer 0)) := Lib.hid r4; have B4 := Lib.hid (Only.below B2.out o4 B2.out.size (fun k hk e => by subst e; omega)); clear r4 o4 z4))
  exact bodyPost_ret (rt_results Tryd.results36 rfl R4.out) rfl ⟨rfl, B4.out⟩
set_option maxRecDepth 100000 in
set_option maxHeartbeats 1000000 in
theorem rtch_zero (G : Rv) (w : World) (hB : 0 ≤ G.B ∧ G.B ≤ 100000) (hR : 0 ≤ G.R ∧ G.R ≤ 64) (h : G.at_ = 2) :
    Calls Tryd.prog 36 #[rvV G (.slice Af nf cf) (.slice Ao no co) (.slice Al nl cl)] w fun e w' => e = .returned (touchV 2 (atV13 G.B G.R 3 0 0) 0) ∧ Below w.heap.size w w' := by
  have HSZ := Lib.hid (fun (H : Rv) (a b c : Value) => (rv_size.trans (congrArg some (rv_len H a b c).symm)))
  have HS3 : Hid ((Tryd.prog.info? 50).map (·.size) = some ([.int .i64 2, .int .i64 (atV13 G.B G.R 3 0 0), .int .i64 0] : List Value).length) := Lib.hid rt_size
  have HO3 : Hid (∀ v ∈ ([.int .i64 2, .int .i64 (atV13 G.B G.R 3 0 0), .int .i64 0] : List Value), v.oneCell' = true) := Lib.hid (rt_one _ _ _)
  have KAD := Lib.hid (fun W => radd_any G.own G.known W)
  have KAT := Lib.hid (fun W => rat16_any (Af := Af) (nf := nf) (cf := cf) (Ao := Ao) (no := no) (co := co) (Al := Al) (nl := nl) (cl := cl) G 3 0 0 hB hR W)
  unfold rvV at KAT
  have H1 := Lib.hid h
  clear h
  clear hB hR
  unfold rvV
  go_enter Tryd.func36, Tryd.ntmps36
  go_wp2_with (first
    | ((with_reducible refine box_walk rfl 35 (.tmp 0) rfl (rvC G (.slice Af nf cf) (.slice Ao no co) (.slice Al nl cl)) rfl ?_); intro w1 r1 b1 z1; have R1 := Lib.hid r1; have B1 := Lib.hid b1; have hlt1 := r1.lt; clear r1 b1 z1)
    | ((with_reducible refine alloc_walk (o := ⟨some 2, _, _, _, _, _⟩) rfl 50 rfl _ rt_zero ?_); go_must (intro w2 r2 b2 z2; have R2 := Lib.hid (R1.out.below b2); have Q2 := Lib.hid r2; have B2 := Lib.hid (below_on B1.out b2); have c4 := R2.out.cell 4; have c5 := R2.out.cell 5; have c11 := R2.out.cell 11; have c15 := R2.out.cell 15; simp only [rvC, List.getElem?_cons_zero, List.getElem?_cons_succ] at c4 c5 c11 c15; rw [H1.out] at c11; clear r2 b2 z2))
    | (go_at_call 48; refine (KAD.out _).mono ?_; rintro e w7 ⟨rfl, rfl⟩)
    | (with_reducible refine loadRow_walk rfl 35 (.tmp 1) rfl w.heap.size rfl (rvC G (.slice Af nf cf) (.slice Ao no co) (.slice Al nl cl)) rv_struct (HSZ.out _ _ _ _) 35 R2.out ?_)
    | (go_at_call 49; refine (KAT.out _).mono ?_; rintro e w8 ⟨rfl, b8⟩; have Q8 := Lib.hid (Q2.out.below b8); have B8 := Lib.hid (below_on B2.out b8); clear b8)
    | ((with_reducible refine storeRow_walk rfl 50 (.tmp 2) (.tmp 24) rfl w1.heap.size rfl [.int .i64 2, .int .i64 (atV13 G.B G.R 3 0 0), .int .i64 0] rfl HS3.out 50 (tcC 0 0 0) Q8.out rfl HO3.out ?_); intro w4 r4 o4 z4; have R4 : Hid (Row w4 w1.heap.size 50 (tcC 2 (atV13 G.B G.R 3 0 0) 0)) := Lib.hid r4; have B4 := Lib.hid (Only.below B8.out o4 B8.out.size (fun k hk e => by subst e; omega)); clear r4 o4 z4))
  exact bodyPost_ret (rt_results Tryd.results36 rfl R4.out) rfl ⟨rfl, B4.out⟩
set_option maxRecDepth 100000 in
set_option maxHeartbeats 1000000 in
theorem rtch_mark (G : Rv) (w : World) (hB : 0 ≤ G.B ∧ G.B ≤ 100000) (hR : 0 ≤ G.R ∧ G.R ≤ 64) (h : G.at_ = 3) :
    Calls Tryd.prog 36 #[rvV G (.slice Af nf cf) (.slice Ao no co) (.slice Al nl cl)] w fun e w' => e = .returned (touchV 2 (atV13 G.B G.R 1 0 0) (addW G.own G.known)) ∧ Below w.heap.size w w' := by
  have HSZ := Lib.hid (fun (H : Rv) (a b c : Value) => (rv_size.trans (congrArg some (rv_len H a b c).symm)))
  have HS3 : Hid ((Tryd.prog.info? 50).map (·.size) = some ([.int .i64 2, .int .i64 (atV13 G.B G.R 1 0 0), .int .i64 (addW G.own G.known)] : List Value).length) := Lib.hid rt_size
  have HO3 : Hid (∀ v ∈ ([.int .i64 2, .int .i64 (atV13 G.B G.R 1 0 0), .int .i64 (addW G.own G.known)] : List Value), v.oneCell' = true) := Lib.hid (rt_one _ _ _)
  have KAD := Lib.hid (fun W => radd_any G.own G.known W)
  have KAT := Lib.hid (fun W => rat16_any (Af := Af) (nf := nf) (cf := cf) (Ao := Ao) (no := no) (co := co) (Al := Al) (nl := nl) (cl := cl) G 1 0 0 hB hR W)
  unfold rvV at KAT
  have H1 := Lib.hid h
  clear h
  clear hB hR
  unfold rvV
  go_enter Tryd.func36, Tryd.ntmps36
  go_wp2_with (first
    | ((with_reducible refine box_walk rfl 35 (.tmp 0) rfl (rvC G (.slice Af nf cf) (.slice Ao no co) (.slice Al nl cl)) rfl ?_); intro w1 r1 b1 z1; have R1 := Lib.hid r1; have B1 := Lib.hid b1; have hlt1 := r1.lt; clear r1 b1 z1)
    | ((with_reducible refine alloc_walk (o := ⟨some 2, _, _, _, _, _⟩) rfl 50 rfl _ rt_zero ?_); go_must (intro w2 r2 b2 z2; have R2 := Lib.hid (R1.out.below b2); have Q2 := Lib.hid r2; have B2 := Lib.hid (below_on B1.out b2); have c4 := R2.out.cell 4; have c5 := R2.out.cell 5; have c11 := R2.out.cell 11; have c15 := R2.out.cell 15; simp only [rvC, List.getElem?_cons_zero, List.getElem?_cons_succ] at c4 c5 c11 c15; rw [H1.out] at c11; clear r2 b2 z2))
    | (go_at_call 48; refine (KAD.out _).mono ?_; rintro e w7 ⟨rfl, rfl⟩)
    | (with_reducible refine loadRow_walk rfl 35 (.tmp 1) rfl w.heap.size rfl (rvC G (.slice Af nf cf) (.slice Ao no co) (.slice Al nl cl)) rv_struct (HSZ.out _ _ _ _) 35 R2.out ?_)
    | (go_at_call 49; refine (KAT.out _).mono ?_; rintro e w8 ⟨rfl, b8⟩; have Q8 := Lib.hid (Q2.out.below b8); have B8 := Lib.hid (below_on B2.out b8); clear b8)
    | ((with_reducible refine storeRow_walk rfl 50 (.tmp 2) (.tmp 30) rfl w1.heap.size rfl [.int .i64 2, .int .i64 (atV13 G.B G.R 1 0 0), .int .i64 (addW G.own G.known)] rfl HS3.out 50 (tcC 0 0 0) Q8.out rfl HO3.out ?_); intro w4 r4 o4 z4; have R4 : Hid (Row w4 w1.heap.size 50 (tcC 2 (atV13 G.B G.R 1 0 0) (addW G.own G.known))) := Lib.hid r4; have B4 := Lib.hid (Only.below B8.out o4 B8.out.size (fun k hk e => by subst e; omega)); clear r4 o4 z4))
  exact bodyPost_ret (rt_results Tryd.results36 rfl R4.out) rfl ⟨rfl, B4.out⟩
set_option maxRecDepth 100000 in
set_option maxHeartbeats 1000000 in
theorem rtch_link (G : Rv) (w : World) (hB : 0 ≤ G.B ∧ G.B ≤ 100000) (hR : 0 ≤ G.R ∧ G.R ≤ 64) (h : G.at_ = 5) :
    Calls Tryd.prog 36 #[rvV G (.slice Af nf cf) (.slice Ao no co) (.slice Al nl cl)] w fun e w' => e = .returned (touchV 1 (atV13 G.B G.R 2 0 0) 0) ∧ Below w.heap.size w w' := by
  have HSZ := Lib.hid (fun (H : Rv) (a b c : Value) => (rv_size.trans (congrArg some (rv_len H a b c).symm)))
  have HS3 : Hid ((Tryd.prog.info? 50).map (·.size) = some ([.int .i64 1, .int .i64 (atV13 G.B G.R 2 0 0), .int .i64 0] : List Value).length) := Lib.hid rt_size
  have HO3 : Hid (∀ v ∈ ([.int .i64 1, .int .i64 (atV13 G.B G.R 2 0 0), .int .i64 0] : List Value), v.oneCell' = true) := Lib.hid (rt_one _ _ _)
  have KAD := Lib.hid (fun W => radd_any G.own G.known W)
  have KAT := Lib.hid (fun W => rat16_any (Af := Af) (nf := nf) (cf := cf) (Ao := Ao) (no := no) (co := co) (Al := Al) (nl := nl) (cl := cl) G 2 0 0 hB hR W)
  unfold rvV at KAT
  have H1 := Lib.hid h
  clear h
  clear hB hR
  unfold rvV
  go_enter Tryd.func36, Tryd.ntmps36
  go_wp2_with (first
    | ((with_reducible refine box_walk rfl 35 (.tmp 0) rfl (rvC G (.slice Af nf cf) (.slice Ao no co) (.slice Al nl cl)) rfl ?_); intro w1 r1 b1 z1; have R1 := Lib.hid r1; have B1 := Lib.hid b1; have hlt1 := r1.lt; clear r1 b1 z1)
    | ((with_reducible refine alloc_walk (o := ⟨some 2, _, _, _, _, _⟩) rfl 50 rfl _ rt_zero ?_); go_must (intro w2 r2 b2 z2; have R2 := Lib.hid (R1.out.below b2); have Q2 := Lib.hid r2; have B2 := Lib.hid (below_on B1.out b2); have c4 := R2.out.cell 4; have c5 := R2.out.cell 5; have c11 := R2.out.cell 11; have c15 := R2.out.cell 15; simp only [rvC, List.getElem?_cons_zero, List.getElem?_cons_succ] at c4 c5 c11 c15; rw [H1.out] at c11; clear r2 b2 z2))
    | (go_at_call 48; refine (KAD.out _).mono ?_; rintro e w7 ⟨rfl, rfl⟩)
    | (with_reducible refine loadRow_walk rfl 35 (.tmp 1) rfl w.heap.size rfl (rvC G (.slice Af nf cf) (.slice Ao no co) (.slice Al nl cl)) rv_struct (HSZ.out _ _ _ _) 35 R2.out ?_)
    | (go_at_call 49; refine (KAT.out _).mono ?_; rintro e w8 ⟨rfl, b8⟩; have Q8 := Lib.hid (Q2.out.below b8); have B8 := Lib.hid (below_on B2.out b8); clear b8)
    | ((with_reducible refine storeRow_walk rfl 50 (.tmp 2) (.tmp 35) rfl w1.heap.size rfl [.int .i64 1, .int .i64 (atV13 G.B G.R 2 0 0), .int .i64 0] rfl HS3.out 50 (tcC 0 0 0) Q8.out rfl HO3.out ?_); intro w4 r4 o4 z4; have R4 : Hid (Row w4 w1.heap.size 50 (tcC 1 (atV13 G.B G.R 2 0 0) 0)) := Lib.hid r4; have B4 := Lib.hid (Only.below B8.out o4 B8.out.size (fun k hk e => by subst e; omega)); clear r4 o4 z4))
  exact bodyPost_ret (rt_results Tryd.results36 rfl R4.out) rfl ⟨rfl, B4.out⟩
set_option maxRecDepth 100000 in
set_option maxHeartbeats 1000000 in
theorem rtch_room (G : Rv) (w : World) (hB : 0 ≤ G.B ∧ G.B ≤ 100000) (hR : 0 ≤ G.R ∧ G.R ≤ 64) (h : G.at_ = 6) :
    Calls Tryd.prog 36 #[rvV G (.slice Af nf cf) (.slice Ao no co) (.slice Al nl cl)] w fun e w' => e = .returned (touchV 1 (atV13 G.B G.R 4 0 0) 0) ∧ Below w.heap.size w w' := by
  have HSZ := Lib.hid (fun (H : Rv) (a b c : Value) => (rv_size.trans (congrArg some (rv_len H a b c).symm)))
  have HS3 : Hid ((Tryd.prog.info? 50).map (·.size) = some ([.int .i64 1, .int .i64 (atV13 G.B G.R 4 0 0), .int .i64 0] : List Value).length) := Lib.hid rt_size
  have HO3 : Hid (∀ v ∈ ([.int .i64 1, .int .i64 (atV13 G.B G.R 4 0 0), .int .i64 0] : List Value), v.oneCell' = true) := Lib.hid (rt_one _ _ _)
  have KAD := Lib.hid (fun W => radd_any G.own G.known W)
  have KAT := Lib.hid (fun W => rat16_any (Af := Af) (nf := nf) (cf := cf) (Ao := Ao) (no := no) (co := co) (Al := Al) (nl := nl) (cl := cl) G 4 0 0 hB hR W)
  unfold rvV at KAT
  have H1 := Lib.hid h
  clear h
  clear hB hR
  unfold rvV
  go_enter Tryd.func36, Tryd.ntmps36
  go_wp2_with (first
    | ((with_reducible refine box_walk rfl 35 (.tmp 0) rfl (rvC G (.slice Af nf cf) (.slice Ao no co) (.slice Al nl cl)) rfl ?_); intro w1 r1 b1 z1; have R1 := Lib.hid r1; have B1 := Lib.hid b1; have hlt1 := r1.lt; clear r1 b1 z1)
    | ((with_reducible refine alloc_walk (o := ⟨some 2, _, _, _, _, _⟩) rfl 50 rfl _ rt_zero ?_); go_must (intro w2 r2 b2 z2; have R2 := Lib.hid (R1.out.below b2); have Q2 := Lib.hid r2; have B2 := Lib.hid (below_on B1.out b2); have c4 := R2.out.cell 4; have c5 := R2.out.cell 5; have c11 := R2.out.cell 11; have c15 := R2.out.cell 15; simp only [rvC, List.getElem?_cons_zero, List.getElem?_cons_succ] at c4 c5 c11 c15; rw [H1.out] at c11; clear r2 b2 z2))
    | (go_at_call 48; refine (KAD.out _).mono ?_; rintro e w7 ⟨rfl, rfl⟩)
    | (with_reducible refine loadRow_walk rfl 35 (.tmp 1) rfl w.heap.size rfl (rvC G (.slice Af nf cf) (.slice Ao no co) (.slice Al nl cl)) rv_struct (HSZ.out _ _ _ _) 35 R2.out ?_)
    | (go_at_call 49; refine (KAT.out _).mono ?_; rintro e w8 ⟨rfl, b8⟩; have Q8 := Lib.hid (Q2.out.below b8); have B8 := Lib.hid (below_on B2.out b8); clear b8)
    | ((with_reducible refine storeRow_walk rfl 50 (.tmp 2) (.tmp 40) rfl w1.heap.size rfl [.int .i64 1, .int .i64 (atV13 G.B G.R 4 0 0), .int .i64 0] rfl HS3.out 50 (tcC 0 0 0) Q8.out rfl HO3.out ?_); intro w4 r4 o4 z4; have R4 : Hid (Row w4 w1.heap.size 50 (tcC 1 (atV13 G.B G.R 4 0 0) 0)) := Lib.hid r4; have B4 := Lib.hid (Only.below B8.out o4 B8.out.size (fun k hk e => by subst e; omega)); clear r4 o4 z4))
  exact bodyPost_ret (rt_results Tryd.results36 rfl R4.out) rfl ⟨rfl, B4.out⟩
set_option maxRecDepth 100000 in
set_option maxHeartbeats 1000000 in
theorem rtch_ring (G : Rv) (w : World) (h : G.at_ = 14) :
    Calls Tryd.prog 36 #[rvV G (.slice Af nf cf) (.slice Ao no co) (.slice Al nl cl)] w fun e w' => e = .returned (touchV 5 G.peer 0) ∧ Below w.heap.size w w' := by
  have HSZ := Lib.hid (fun (H : Rv) (a b c : Value) => (rv_size.trans (congrArg some (rv_len H a b c).symm)))
  have HS3 : Hid ((Tryd.prog.info? 50).map (·.size) = some ([.int .i64 5, .int .i64 G.peer, .int .i64 0] : List Value).length) := Lib.hid rt_size
  have HO3 : Hid (∀ v ∈ ([.int .i64 5, .int .i64 G.peer, .int .i64 0] : List Value), v.oneCell' = true) := Lib.hid (rt_one _ _ _)
  have KAD := Lib.hid (fun W => radd_any G.own G.known W)
  have H1 := Lib.hid h
  clear h
  unfold rvV
  go_enter Tryd.func36, Tryd.ntmps36
  go_wp2_with (first
    | ((with_reducible refine box_walk rfl 35 (.tmp 0) rfl (rvC G (.slice Af nf cf) (.slice Ao no co) (.slice Al nl cl)) rfl ?_); intro w1 r1 b1 z1; have R1 := Lib.hid r1; have B1 := Lib.hid b1; have hlt1 := r1.lt; clear r1 b1 z1)
    | ((with_reducible refine alloc_walk (o := ⟨some 2, _, _, _, _, _⟩) rfl 50 rfl _ rt_zero ?_); go_must (intro w2 r2 b2 z2; have R2 := Lib.hid (R1.out.below b2); have Q2 := Lib.hid r2; have B2 := Lib.hid (below_on B1.out b2); have c3 := R2.out.cell 3; have c4 := R2.out.cell 4; have c5 := R2.out.cell 5; have c11 := R2.out.cell 11; have c15 := R2.out.cell 15; simp only [rvC, List.getElem?_cons_zero, List.getElem?_cons_succ] at c3 c4 c5 c11 c15; rw [H1.out] at c11; clear r2 b2 z2))
    | (go_at_call 48; refine (KAD.out _).mono ?_; rintro e w7 ⟨rfl, rfl⟩)
    | ((with_reducible refine storeRow_walk rfl 50 (.tmp 2) (.tmp 97) rfl w1.heap.size rfl [.int .i64 5, .int .i64 G.peer, .int .i64 0] rfl HS3.out 50 (tcC 0 0 0) Q2.out rfl HO3.out ?_); intro w4 r4 o4 z4; have R4 : Hid (Row w4 w1.heap.size 50 (tcC 5 G.peer 0)) := Lib.hid r4; have B4 := Lib.hid (Only.below B2.out o4 B2.out.size (fun k hk e => by subst e; omega)); clear r4 o4 z4))
  exact bodyPost_ret (rt_results Tryd.results36 rfl R4.out) rfl ⟨rfl, B4.out⟩
set_option maxRecDepth 100000 in
set_option maxHeartbeats 1000000 in
theorem rtch_settle (G : Rv) (w : World) (h : G.at_ = 4) :
    Calls Tryd.prog 36 #[rvV G (.slice Af nf cf) (.slice Ao no co) (.slice Al nl cl)] w fun e w' => e = .returned (touchV 3 0 0) ∧ Below w.heap.size w w' := by
  have HSZ := Lib.hid (fun (H : Rv) (a b c : Value) => (rv_size.trans (congrArg some (rv_len H a b c).symm)))
  have HS3 : Hid ((Tryd.prog.info? 50).map (·.size) = some ([.int .i64 3, .int .i64 0, .int .i64 0] : List Value).length) := Lib.hid rt_size
  have HO3 : Hid (∀ v ∈ ([.int .i64 3, .int .i64 0, .int .i64 0] : List Value), v.oneCell' = true) := Lib.hid (rt_one _ _ _)
  have KAD := Lib.hid (fun W => radd_any G.own G.known W)
  have H1 := Lib.hid h
  clear h
  unfold rvV
  go_enter Tryd.func36, Tryd.ntmps36
  go_wp2_with (first
    | ((with_reducible refine box_walk rfl 35 (.tmp 0) rfl (rvC G (.slice Af nf cf) (.slice Ao no co) (.slice Al nl cl)) rfl ?_); intro w1 r1 b1 z1; have R1 := Lib.hid r1; have B1 := Lib.hid b1; have hlt1 := r1.lt; clear r1 b1 z1)
    | ((with_reducible refine alloc_walk (o := ⟨some 2, _, _, _, _, _⟩) rfl 50 rfl _ rt_zero ?_); go_must (intro w2 r2 b2 z2; have R2 := Lib.hid (R1.out.below b2); have Q2 := Lib.hid r2; have B2 := Lib.hid (below_on B1.out b2); have c4 := R2.out.cell 4; have c5 := R2.out.cell 5; have c11 := R2.out.cell 11; have c15 := R2.out.cell 15; simp only [rvC, List.getElem?_cons_zero, List.getElem?_cons_succ] at c4 c5 c11 c15; rw [H1.out] at c11; clear r2 b2 z2))
    | (go_at_call 48; refine (KAD.out _).mono ?_; rintro e w7 ⟨rfl, rfl⟩)
    | ((with_reducible refine storeRow_walk rfl 50 (.tmp 2) (.tmp 98) rfl w1.heap.size rfl [.int .i64 3, .int .i64 0, .int .i64 0] rfl HS3.out 50 (tcC 0 0 0) Q2.out rfl HO3.out ?_); intro w4 r4 o4 z4; have R4 : Hid (Row w4 w1.heap.size 50 (tcC 3 0 0)) := Lib.hid r4; have B4 := Lib.hid (Only.below B2.out o4 B2.out.size (fun k hk e => by subst e; omega)); clear r4 o4 z4))
  exact bodyPost_ret (rt_results Tryd.results36 rfl R4.out) rfl ⟨rfl, B4.out⟩
set_option maxRecDepth 100000 in
set_option maxHeartbeats 1000000 in
theorem rtch_guard (G : Rv) (w : World) (h : G.at_ = 11) :
    Calls Tryd.prog 36 #[rvV G (.slice Af nf cf) (.slice Ao no co) (.slice Al nl cl)] w fun e w' => e = .returned (touchV 3 0 0) ∧ Below w.heap.size w w' := by
  have HSZ := Lib.hid (fun (H : Rv) (a b c : Value) => (rv_size.trans (congrArg some (rv_len H a b c).symm)))
  have HS3 : Hid ((Tryd.prog.info? 50).map (·.size) = some ([.int .i64 3, .int .i64 0, .int .i64 0] : List Value).length) := Lib.hid rt_size
  have HO3 : Hid (∀ v ∈ ([.int .i64 3, .int .i64 0, .int .i64 0] : List Value), v.oneCell' = true) := Lib.hid (rt_one _ _ _)
  have KAD := Lib.hid (fun W => radd_any G.own G.known W)
  have H1 := Lib.hid h
  clear h
  unfold rvV
  go_enter Tryd.func36, Tryd.ntmps36
  go_wp2_with (first
    | ((with_reducible refine box_walk rfl 35 (.tmp 0) rfl (rvC G (.slice Af nf cf) (.slice Ao no co) (.slice Al nl cl)) rfl ?_); intro w1 r1 b1 z1; have R1 := Lib.hid r1; have B1 := Lib.hid b1; have hlt1 := r1.lt; clear r1 b1 z1)
    | ((with_reducible refine alloc_walk (o := ⟨some 2, _, _, _, _, _⟩) rfl 50 rfl _ rt_zero ?_); go_must (intro w2 r2 b2 z2; have R2 := Lib.hid (R1.out.below b2); have Q2 := Lib.hid r2; have B2 := Lib.hid (below_on B1.out b2); have c4 := R2.out.cell 4; have c5 := R2.out.cell 5; have c11 := R2.out.cell 11; have c15 := R2.out.cell 15; simp only [rvC, List.getElem?_cons_zero, List.getElem?_cons_succ] at c4 c5 c11 c15; rw [H1.out] at c11; clear r2 b2 z2))
    | (go_at_call 48; refine (KAD.out _).mono ?_; rintro e w7 ⟨rfl, rfl⟩)
    | ((with_reducible refine storeRow_walk rfl 50 (.tmp 2) (.tmp 98) rfl w1.heap.size rfl [.int .i64 3, .int .i64 0, .int .i64 0] rfl HS3.out 50 (tcC 0 0 0) Q2.out rfl HO3.out ?_); intro w4 r4 o4 z4; have R4 : Hid (Row w4 w1.heap.size 50 (tcC 3 0 0)) := Lib.hid r4; have B4 := Lib.hid (Only.below B2.out o4 B2.out.size (fun k hk e => by subst e; omega)); clear r4 o4 z4))
  exact bodyPost_ret (rt_results Tryd.results36 rfl R4.out) rfl ⟨rfl, B4.out⟩
set_option maxRecDepth 100000 in
set_option maxHeartbeats 1000000 in
theorem rtch_flush (G : Rv) (w : World) (h : G.at_ = 13) :
    Calls Tryd.prog 36 #[rvV G (.slice Af nf cf) (.slice Ao no co) (.slice Al nl cl)] w fun e w' => e = .returned (touchV 3 0 0) ∧ Below w.heap.size w w' := by
  have HSZ := Lib.hid (fun (H : Rv) (a b c : Value) => (rv_size.trans (congrArg some (rv_len H a b c).symm)))
  have HS3 : Hid ((Tryd.prog.info? 50).map (·.size) = some ([.int .i64 3, .int .i64 0, .int .i64 0] : List Value).length) := Lib.hid rt_size
  have HO3 : Hid (∀ v ∈ ([.int .i64 3, .int .i64 0, .int .i64 0] : List Value), v.oneCell' = true) := Lib.hid (rt_one _ _ _)
  have KAD := Lib.hid (fun W => radd_any G.own G.known W)
  have H1 := Lib.hid h
  clear h
  unfold rvV
  go_enter Tryd.func36, Tryd.ntmps36
  go_wp2_with (first
    | ((with_reducible refine box_walk rfl 35 (.tmp 0) rfl (rvC G (.slice Af nf cf) (.slice Ao no co) (.slice Al nl cl)) rfl ?_); intro w1 r1 b1 z1; have R1 := Lib.hid r1; have B1 := Lib.hid b1; have hlt1 := r1.lt; clear r1 b1 z1)
    | ((with_reducible refine alloc_walk (o := ⟨some 2, _, _, _, _, _⟩) rfl 50 rfl _ rt_zero ?_); go_must (intro w2 r2 b2 z2; have R2 := Lib.hid (R1.out.below b2); have Q2 := Lib.hid r2; have B2 := Lib.hid (below_on B1.out b2); have c4 := R2.out.cell 4; have c5 := R2.out.cell 5; have c11 := R2.out.cell 11; have c15 := R2.out.cell 15; simp only [rvC, List.getElem?_cons_zero, List.getElem?_cons_succ] at c4 c5 c11 c15; rw [H1.out] at c11; clear r2 b2 z2))
    | (go_at_call 48; refine (KAD.out _).mono ?_; rintro e w7 ⟨rfl, rfl⟩)
    | ((with_reducible refine storeRow_walk rfl 50 (.tmp 2) (.tmp 98) rfl w1.heap.size rfl [.int .i64 3, .int .i64 0, .int .i64 0] rfl HS3.out 50 (tcC 0 0 0) Q2.out rfl HO3.out ?_); intro w4 r4 o4 z4; have R4 : Hid (Row w4 w1.heap.size 50 (tcC 3 0 0)) := Lib.hid r4; have B4 := Lib.hid (Only.below B2.out o4 B2.out.size (fun k hk e => by subst e; omega)); clear r4 o4 z4))
  exact bodyPost_ret (rt_results Tryd.results36 rfl R4.out) rfl ⟨rfl, B4.out⟩
end
end

section
open Go.ChangeShapes Go.WideShapes Go.ChangeAt Go.RowKit
set_option maxRecDepth 100000 in
set_option maxHeartbeats 4000000 in
theorem ris16_any (B R self peer own : Int) (w : World) :
    Calls Tryd.prog 7 #[.int .i64 B, .int .i64 R, .int .i64 self, .int .i64 peer, .int .i64 own] w fun e w' => e = .returned (.bool (decide (ok16 B R self peer own))) ∧ w = w' := by
  have KR := Lib.hid (fun W => rring13_any R W)
  obtain ⟨b, hb⟩ : ∃ b, decide (ok16 B R self peer own) = b := ⟨_, rfl⟩
  rw [hb]
  by_cases c0 : okRing R
  rotate_left
  · obtain rfl : false = b := by rw [← hb]; symm; simp only [decide_eq_false_iff_not]; intro h; unfold ok16 at h; exact c0 (by exact h.1)
    have e0 : decide (okRing R) = false := by simp [c0]
    rw [e0] at KR
    clear hb c0
    go_enter Tryd.func7, Tryd.ntmps7
    go_wp2_with fail
    refine (KR.out _).mono ?_
    rintro e w' ⟨rfl, rfl⟩
    go_wp2
    go_ret
    exact ⟨rfl, rfl⟩
  by_cases c1 : 0 ≤ B
  rotate_left
  · obtain rfl : false = b := by rw [← hb]; symm; simp only [decide_eq_false_iff_not]; intro h; unfold ok16 at h; exact c1 (by omega)
    have e0 : decide (okRing R) = true := by simp [c0]
    rw [e0] at KR
    have e1 : decide ((0 : Int) ≤ B) = false := decide_eq_false c1
    clear hb c0 c1
    go_enter Tryd.func7, Tryd.ntmps7
    go_wp2_with fail
    refine (KR.out _).mono ?_
    rintro e w' ⟨rfl, rfl⟩
    go_wp2
    go_ret
    exact ⟨rfl, rfl⟩
  by_cases c2 : B < 65536
  rotate_left
  · obtain rfl : false = b := by rw [← hb]; symm; simp only [decide_eq_false_iff_not]; intro h; unfold ok16 at h; exact c2 (by omega)
    have e0 : decide (okRing R) = true := by simp [c0]
    rw [e0] at KR
    have e1 : decide ((0 : Int) ≤ B) = true := decide_eq_true c1
    have e2 : decide (B < 65536) = false := decide_eq_false c2
    clear hb c0 c1 c2
    go_enter Tryd.func7, Tryd.ntmps7
    go_wp2_with fail
    refine (KR.out _).mono ?_
    rintro e w' ⟨rfl, rfl⟩
    go_wp2
    go_ret
    exact ⟨rfl, rfl⟩
  by_cases c3 : 0 ≤ self
  rotate_left
  · obtain rfl : false = b := by rw [← hb]; symm; simp only [decide_eq_false_iff_not]; intro h; unfold ok16 at h; exact c3 (by omega)
    have e0 : decide (okRing R) = true := by simp [c0]
    rw [e0] at KR
    have e1 : decide ((0 : Int) ≤ B) = true := decide_eq_true c1
    have e2 : decide (B < 65536) = true := decide_eq_true c2
    have e3 : decide ((0 : Int) ≤ self) = false := decide_eq_false c3
    clear hb c0 c1 c2 c3
    go_enter Tryd.func7, Tryd.ntmps7
    go_wp2_with fail
    refine (KR.out _).mono ?_
    rintro e w' ⟨rfl, rfl⟩
    go_wp2
    go_ret
    exact ⟨rfl, rfl⟩
  by_cases c4 : self < 8
  rotate_left
  · obtain rfl : false = b := by rw [← hb]; symm; simp only [decide_eq_false_iff_not]; intro h; unfold ok16 at h; exact c4 (by omega)
    have e0 : decide (okRing R) = true := by simp [c0]
    rw [e0] at KR
    have e1 : decide ((0 : Int) ≤ B) = true := decide_eq_true c1
    have e2 : decide (B < 65536) = true := decide_eq_true c2
    have e3 : decide ((0 : Int) ≤ self) = true := decide_eq_true c3
    have e4 : decide (self < 8) = false := decide_eq_false c4
    clear hb c0 c1 c2 c3 c4
    go_enter Tryd.func7, Tryd.ntmps7
    go_wp2_with fail
    refine (KR.out _).mono ?_
    rintro e w' ⟨rfl, rfl⟩
    go_wp2
    go_ret
    exact ⟨rfl, rfl⟩
  by_cases c5 : 0 ≤ peer
  rotate_left
  · obtain rfl : false = b := by rw [← hb]; symm; simp only [decide_eq_false_iff_not]; intro h; unfold ok16 at h; exact c5 (by omega)
    have e0 : decide (okRing R) = true := by simp [c0]
    rw [e0] at KR
    have e1 : decide ((0 : Int) ≤ B) = true := decide_eq_true c1
    have e2 : decide (B < 65536) = true := decide_eq_true c2
    have e3 : decide ((0 : Int) ≤ self) = true := decide_eq_true c3
    have e4 : decide (self < 8) = true := decide_eq_true c4
    have e5 : decide ((0 : Int) ≤ peer) = false := decide_eq_false c5
    clear hb c0 c1 c2 c3 c4 c5
    go_enter Tryd.func7, Tryd.ntmps7
    go_wp2_with fail
    refine (KR.out _).mono ?_
    rintro e w' ⟨rfl, rfl⟩
    go_wp2
    go_ret
    exact ⟨rfl, rfl⟩
  by_cases c6 : peer < 8
  rotate_left
  · obtain rfl : false = b := by rw [← hb]; symm; simp only [decide_eq_false_iff_not]; intro h; unfold ok16 at h; exact c6 (by omega)
    have e0 : decide (okRing R) = true := by simp [c0]
    rw [e0] at KR
    have e1 : decide ((0 : Int) ≤ B) = true := decide_eq_true c1
    have e2 : decide (B < 65536) = true := decide_eq_true c2
    have e3 : decide ((0 : Int) ≤ self) = true := decide_eq_true c3
    have e4 : decide (self < 8) = true := decide_eq_true c4
    have e5 : decide ((0 : Int) ≤ peer) = true := decide_eq_true c5
    have e6 : decide (peer < 8) = false := decide_eq_false c6
    clear hb c0 c1 c2 c3 c4 c5 c6
    go_enter Tryd.func7, Tryd.ntmps7
    go_wp2_with fail
    refine (KR.out _).mono ?_
    rintro e w' ⟨rfl, rfl⟩
    go_wp2
    go_ret
    exact ⟨rfl, rfl⟩
  by_cases c7 : self ≠ peer
  rotate_left
  · obtain rfl : false = b := by rw [← hb]; symm; simp only [decide_eq_false_iff_not]; intro h; unfold ok16 at h; exact c7 (by exact h.2.2.2.2.1)
    have e0 : decide (okRing R) = true := by simp [c0]
    rw [e0] at KR
    have e1 : decide ((0 : Int) ≤ B) = true := decide_eq_true c1
    have e2 : decide (B < 65536) = true := decide_eq_true c2
    have e3 : decide ((0 : Int) ≤ self) = true := decide_eq_true c3
    have e4 : decide (self < 8) = true := decide_eq_true c4
    have e5 : decide ((0 : Int) ≤ peer) = true := decide_eq_true c5
    have e6 : decide (peer < 8) = true := decide_eq_true c6
    have e7 : (self != peer) = false := by simpa using c7
    clear hb c0 c1 c2 c3 c4 c5 c6 c7
    go_enter Tryd.func7, Tryd.ntmps7
    go_wp2_with fail
    refine (KR.out _).mono ?_
    rintro e w' ⟨rfl, rfl⟩
    go_wp2
    go_ret
    exact ⟨rfl, rfl⟩
  by_cases c8 : 0 ≤ own
  rotate_left
  · obtain rfl : false = b := by rw [← hb]; symm; simp only [decide_eq_false_iff_not]; intro h; unfold ok16 at h; exact c8 (by omega)
    have e0 : decide (okRing R) = true := by simp [c0]
    rw [e0] at KR
    have e1 : decide ((0 : Int) ≤ B) = true := decide_eq_true c1
    have e2 : decide (B < 65536) = true := decide_eq_true c2
    have e3 : decide ((0 : Int) ≤ self) = true := decide_eq_true c3
    have e4 : decide (self < 8) = true := decide_eq_true c4
    have e5 : decide ((0 : Int) ≤ peer) = true := decide_eq_true c5
    have e6 : decide (peer < 8) = true := decide_eq_true c6
    have e7 : (self != peer) = true := by simpa using c7
    have e8 : decide ((0 : Int) ≤ own) = false := decide_eq_false c8
    clear hb c0 c1 c2 c3 c4 c5 c6 c7 c8
    go_enter Tryd.func7, Tryd.ntmps7
    go_wp2_with fail
    refine (KR.out _).mono ?_
    rintro e w' ⟨rfl, rfl⟩
    go_wp2
    go_ret
    exact ⟨rfl, rfl⟩
  by_cases c9 : own < 65536
  rotate_left
  · obtain rfl : false = b := by rw [← hb]; symm; simp only [decide_eq_false_iff_not]; intro h; unfold ok16 at h; exact c9 (by omega)
    have e0 : decide (okRing R) = true := by simp [c0]
    rw [e0] at KR
    have e1 : decide ((0 : Int) ≤ B) = true := decide_eq_true c1
    have e2 : decide (B < 65536) = true := decide_eq_true c2
    have e3 : decide ((0 : Int) ≤ self) = true := decide_eq_true c3
    have e4 : decide (self < 8) = true := decide_eq_true c4
    have e5 : decide ((0 : Int) ≤ peer) = true := decide_eq_true c5
    have e6 : decide (peer < 8) = true := decide_eq_true c6
    have e7 : (self != peer) = true := by simpa using c7
    have e8 : decide ((0 : Int) ≤ own) = true := decide_eq_true c8
    have e9 : decide (own < 65536) = false := decide_eq_false c9
    clear hb c0 c1 c2 c3 c4 c5 c6 c7 c8 c9
    go_enter Tryd.func7, Tryd.ntmps7
    go_wp2_with fail
    refine (KR.out _).mono ?_
    rintro e w' ⟨rfl, rfl⟩
    go_wp2
    go_ret
    exact ⟨rfl, rfl⟩
  obtain rfl : true = b := by rw [← hb]; symm; simp only [decide_eq_true_eq]; exact ⟨c0, ⟨c1, c2⟩, ⟨c3, c4⟩, ⟨c5, c6⟩, c7, c8, c9⟩
  have e0 : decide (okRing R) = true := by simp [c0]
  rw [e0] at KR
  have e1 : decide ((0 : Int) ≤ B) = true := decide_eq_true c1
  have e2 : decide (B < 65536) = true := decide_eq_true c2
  have e3 : decide ((0 : Int) ≤ self) = true := decide_eq_true c3
  have e4 : decide (self < 8) = true := decide_eq_true c4
  have e5 : decide ((0 : Int) ≤ peer) = true := decide_eq_true c5
  have e6 : decide (peer < 8) = true := decide_eq_true c6
  have e7 : (self != peer) = true := by simpa using c7
  have e8 : decide ((0 : Int) ≤ own) = true := decide_eq_true c8
  have e9 : decide (own < 65536) = true := decide_eq_true c9
  clear hb c0 c1 c2 c3 c4 c5 c6 c7 c8 c9
  go_enter Tryd.func7, Tryd.ntmps7
  go_wp2_with fail
  refine (KR.out _).mono ?_
  rintro e w' ⟨rfl, rfl⟩
  go_wp2
  go_ret
  exact ⟨rfl, rfl⟩
end

end Go.Proofs.YteipocjgmgaglaaDoor
