/-
  Texts merged, with what one theorem needs of them.
  Conditions: those that each theorem states.
-/
import Derived.Test.YteipocjgmgaglaaDoorRows
import Derived.Test.YteipocjgmgaglaaDoorZ1
import Derived.Test.YteipocjgmgaglaaDoorZ2
import Derived.Test.YteipocjgmgaglaaDoorZ3
import Derived.Test.YteipocjgmgaglaaDoorZ4
import Derived.Test.YteipocjgmgaglaaDoorZ5
import Derived.Test.YteipocjgmgaglaaDoorZ6
import Derived.Test.YteipocjgmgaglaaDoorZ7
import Derived.Test.YteipocjgmgaglaaDoorZ8
import Derived.Test.YteipocjgmgaglaaDoorZ9
import Derived.Test.YteipocjgmgaglaaDoorZ10
import Derived.Test.YteipocjgmgaglaaDoorZ11
import Derived.Test.YteipocjgmgaglaaDoorZ12
import Derived.Test.YteipocjgmgaglaaDoorZ13
import Derived.Test.YteipocjgmgaglaaDoorZ14
import Derived.Test.YteipocjgmgaglaaDoorZ15
import Derived.Test.YteipocjgmgaglaaDoorZ16
import Derived.Test.YteipocjgmgaglaaDoorZ17
import Derived.Test.YteipocjgmgaglaaDoorZ18
import Derived.Test.YteipocjgmgaglaaDoorZ19
import Derived.Test.YteipocjgmgaglaaDoorZ20
import Derived.Test.YteipocjgmgaglaaDoorZ21
import Derived.Test.YteipocjgmgaglaaDoorZ22
import Derived.Below
import Derived.BigQuiet
import Derived.Deep.AppendLies
import Derived.Deep.DeepMust
import Derived.Deep.Draws
import Derived.Deep.MidRow
import Derived.Deep.OwnRows
import Derived.Deep.QuietTactic
import Derived.Deep.RegionHeld3
import Derived.Deep.RegionLaw
import Derived.Deep.RegionWith
import Derived.Defers
import Derived.Great.BuildSlice
import Derived.Handy
import Derived.IntWalk
import Derived.KernelRfl
import Derived.LaidLaws
import Derived.LaidMore
import Derived.Laws.BitsLemmas
import Derived.Laws.CopyOwn
import Derived.Laws.OwnMore
import Derived.Laws.Rows
import Derived.Lib.Hide
import Derived.Lib.SliceRun
import Derived.MakeChecks
import Derived.Maps.AppendAt
import Derived.OpenShut
import Derived.ProofKit
import Derived.Recover
import Derived.RegionTactic
import Derived.Scope
import Derived.WalkKit
import Derived.WalkMore
namespace Go.Proofs.YteipocjgmgaglaaDoor

section
open Go.ChangeShapes Go.WideShapes Go.ChangeAt Go.RowKit
def plZ : List Value := [.slice none 0 0, .slice none 0 0, .slice none 0 0]
theorem rp_size : (Tryd.prog.info? 48).map (·.size) = some 3 := by kernel_rfl
theorem rp_zero : (Tryd.prog.info? 48).map (·.zero) = some (some (.agg plZ.toArray)) := by kernel_rfl
theorem rp_struct : isStruct Tryd.prog 48 = true := by kernel_rfl
theorem rp_one {A1 A2 A3 : Option Addr} {n1 c1 n2 c2 n3 c3 : Nat} : ∀ v ∈ ([.slice A1 n1 c1, .slice A2 n2 c2, .slice A3 n3 c3] : List Value), v.oneCell' = true := by
  intro v hv
  simp at hv
  rcases hv with rfl | rfl | rfl <;> rfl
theorem rstep_results {fn : Func} {s1 s2 s3 q1 q2 : Tmp} (h : fn.results = #[.cell s1 35, .cell s2 48, .cell s3 50, .tmp q1, .tmp q2]) {tmps : Array Value} {w : World} {b1 b2 b3 : Nat} (h1 : tmps.getD s1 undef = .pointer (some ⟨b1, 0, none⟩)) (h2 : tmps.getD s2 undef = .pointer (some ⟨b2, 0, none⟩)) (h3 : tmps.getD s3 undef = .pointer (some ⟨b3, 0, none⟩)) {G : Rv} {vf vo vl x y z u1 u2 : Value} {κ i u : Int} (hq1 : tmps.getD q1 undef = u1) (hq2 : tmps.getD q2 undef = u2)
    (hg : Row w b1 35 (rvC G vf vo vl)) (hp : Row w b2 48 [x, y, z]) (ht : Row w b3 50 (tcC κ i u)) :
    (results fn tmps).run Tryd.prog w = .ok (.tuple #[rvV G vf vo vl, .agg #[x, y, z], touchV κ i u, u1, u2]) w := by
  have l1 := run_loadVar_cells (P := Tryd.prog) w 35 ⟨b1, 0, none⟩ (rvC G vf vo vl) rv_struct (rv_size.trans (congrArg some (rv_len G vf vo vl).symm)) (fun j u hu => by rw [Addr.add_lit, Nat.zero_add, hg.cell]; exact hu)
  have l2 := run_loadVar_cells (P := Tryd.prog) w 48 ⟨b2, 0, none⟩ [x, y, z] rp_struct (rp_size.trans (congrArg some rfl)) (fun j u hu => by rw [Addr.add_lit, Nat.zero_add, hp.cell]; exact hu)
  have l3 := run_loadVar_cells (P := Tryd.prog) w 50 ⟨b3, 0, none⟩ (tcC κ i u) rt_struct (rt_size.trans (congrArg some rfl)) (fun j u hu => by rw [Addr.add_lit, Nat.zero_add, ht.cell]; exact hu)
  have e1 : tmps[s1]?.getD undef = .pointer (some ⟨b1, 0, none⟩) := by simpa using h1
  have e2 : tmps[s2]?.getD undef = .pointer (some ⟨b2, 0, none⟩) := by simpa using h2
  have e3 : tmps[s3]?.getD undef = .pointer (some ⟨b3, 0, none⟩) := by simpa using h3
  have e4 : tmps[q1]?.getD undef = u1 := by simpa using hq1
  have e5 : tmps[q2]?.getD undef = u2 := by simpa using hq2
  simp [results, h, e1, e2, e3, e4, e5, l1, l2, l3, asAddr, rvV, touchV, tcC]
/-- What Step leaves. -/
def RStp (P Pp : Nat → Prop) (G : Rv) (V E K : List Int) (x : Tch) (done : Bool) (ans : Int) (w : World) (e : Ending) (w' : World) : Prop :=
  ∃ Af nf cf Ao no co Al nl cl A1 n1 c1 A2 n2 c2 A3 n3 c3, e = .returned (.tuple #[rvV G (.slice Af nf cf) (.slice Ao no co) (.slice Al nl cl), .agg #[.slice A1 n1 c1, .slice A2 n2 c2, .slice A3 n3 c3], touchV x.1 x.2.1 x.2.2, .bool done, .int .i64 ans]) ∧ RvL w' (fun y => P y ∨ w.heap.size ≤ y) G (.slice Af nf cf) (.slice Ao no co) (.slice Al nl cl) ∧ RPl14 w' (fun y => Pp y ∨ w.heap.size ≤ y) V E K (.slice A1 n1 c1) (.slice A2 n2 c2) (.slice A3 n3 c3) ∧ Below w.heap.size w w'
/-- Step's variables, in the midst of it. -/
structure StR (w W : World) (b1 b2 b3 b4 : Nat) (G : Rv) (vf vo vl : Value) (ps : List Value) : Prop where
  g : Row W w.heap.size 35 (rvC G vf vo vl)
  p : Row W b1 48 ps
  rg : Row W b2 35 rvZ
  rp : Row W b3 48 plZ
  rt : Row W b4 50 (tcC 0 0 0)
  lt : w.heap.size < b1 ∧ b1 < b2 ∧ b2 < b3 ∧ b3 < b4 ∧ b4 < W.heap.size
  below : Below w.heap.size w W
theorem StR.quiet {w W W' : World} {b1 b2 b3 b4 : Nat} {G : Rv} {vf vo vl : Value} {ps : List Value} (h : StR w W b1 b2 b3 b4 G vf vo vl ps) (hb : Below W.heap.size W W') : StR w W' b1 b2 b3 b4 G vf vo vl ps :=
  ⟨h.g.below hb, h.p.below hb, h.rg.below hb, h.rp.below hb, h.rt.below hb, by have := h.lt; have := hb.size; omega, below_on h.below hb⟩
theorem StR.other {w W W' : World} {b1 b2 b3 b4 t : Nat} {G : Rv} {vf vo vl : Value} {ps : List Value} (h : StR w W b1 b2 b3 b4 G vf vo vl ps) (ho : Only (· = t) W W') (ht : b4 < t) : StR w W' b1 b2 b3 b4 G vf vo vl ps :=
  ⟨h.g.only ho (fun e => by have := h.lt; omega), h.p.only ho (fun e => by have := h.lt; omega), h.rg.only ho (fun e => by have := h.lt; omega), h.rp.only ho (fun e => by have := h.lt; omega), h.rt.only ho (fun e => by have := h.lt; omega), by have := h.lt; have := ho.size; omega, Only.below h.below ho h.below.size (fun y hy e => by have := h.lt; omega)⟩
theorem StR.plain {w W W' : World} {b1 b2 b3 b4 : Nat} {G : Rv} {vf vo vl : Value} {ps ps' : List Value} (h : StR w W b1 b2 b3 b4 G vf vo vl ps) (ho : Only (· = b1) W W') (hr : Row W' b1 48 ps') : StR w W' b1 b2 b3 b4 G vf vo vl ps' :=
  ⟨h.g.only ho (fun e => by have := h.lt; omega), hr, h.rg.only ho (fun e => by have := h.lt; omega), h.rp.only ho (fun e => by have := h.lt; omega), h.rt.only ho (fun e => by have := h.lt; omega), by have := h.lt; have := ho.size; omega, Only.below h.below ho h.below.size (fun y hy e => by have := h.lt; omega)⟩
theorem StR.giver {w W W' : World} {b1 b2 b3 b4 : Nat} {G G' : Rv} {vf vo vl vf' vo' vl' : Value} {ps : List Value} (h : StR w W b1 b2 b3 b4 G vf vo vl ps) (ho : Only (· = w.heap.size) W W') (hr : Row W' w.heap.size 35 (rvC G' vf' vo' vl')) : StR w W' b1 b2 b3 b4 G' vf' vo' vl' ps :=
  ⟨hr, h.p.only ho (fun e => by have := h.lt; omega), h.rg.only ho (fun e => by have := h.lt; omega), h.rp.only ho (fun e => by have := h.lt; omega), h.rt.only ho (fun e => by have := h.lt; omega), by have := h.lt; have := ho.size; omega, Only.below h.below ho h.below.size (fun y hy e => by have := h.lt; omega)⟩
/-- Behind the access: the words' lists lie apart from the variables. -/
structure MidR (w W : World) (b1 b2 b3 b4 tb : Nat) (P Pp : Nat → Prop) (G : Rv) (vf vo vl : Value) (V E K : List Int) (x : Tch) (u1 u2 u3 : Value) : Prop where
  st : StR w W b1 b2 b3 b4 G vf vo vl [u1, u2, u3]
  tr : Row W tb 50 (tcC x.1 x.2.1 x.2.2)
  lt : b4 < tb
  pl : RPl14 W (fun y => (Pp y ∨ w.heap.size ≤ y) ∧ (y < w.heap.size ∨ b4 < y) ∧ y ≠ tb) V E K u1 u2 u3
  gl : RvL W (fun y => P y ∧ y < w.heap.size) G vf vo vl
section
variable {Af Ao Al : Option Addr} {nf cf no co nl cl : Nat} {A1 A2 A3 : Option Addr} {n1 c1 n2 c2 n3 c3 : Nat}
set_option maxRecDepth 100000 in
set_option maxHeartbeats 2000000 in
theorem rstep_idle (P Pp : Nat → Prop) (G : Rv) (VW EW KW : List Int) (w : World) (r : RvL w P G (.slice Af nf cf) (.slice Ao no co) (.slice Al nl cl)) (rp : RPl14 w Pp VW EW KW (.slice A1 n1 c1) (.slice A2 n2 c2) (.slice A3 n3 c3)) (h : G.at_ = 0) :
    Calls Tryd.prog 14 #[rvV G (.slice Af nf cf) (.slice Ao no co) (.slice Al nl cl), .agg #[.slice A1 n1 c1, .slice A2 n2 c2, .slice A3 n3 c3]] w (RStp P Pp G VW EW KW (0, 0, 0) true 13 w) := by
  have HSZ := Lib.hid (fun (H : Rv) (a b c : Value) => (rv_size.trans (congrArg some (rv_len H a b c).symm)))
  have HONE := Lib.hid (rv_one (Af := Af) (nf := nf) (cf := cf) (Ao := Ao) (no := no) (co := co) (Al := Al) (nl := nl) (cl := cl))
  have HR := Lib.hid r
  have HP := Lib.hid rp
  have H1 := Lib.hid h
  clear r rp h
  unfold rvV
  go_enter Tryd.func14, Tryd.ntmps14
  go_wp2_with (first
    | ((with_reducible refine box_walk rfl 35 (.tmp 0) rfl (rvC G (.slice Af nf cf) (.slice Ao no co) (.slice Al nl cl)) rfl ?_); intro w1 r1 b1 z1; have R1 := Lib.hid r1; have B1 := Lib.hid b1; have Z1 := Lib.hid z1; clear r1 b1 z1)
    | ((with_reducible refine box_walk rfl 48 (.tmp 1) rfl [.slice A1 n1 c1, .slice A2 n2 c2, .slice A3 n3 c3] rfl ?_); intro w2 r2 b2 z2; have R2 := Lib.hid r2; have B2 := Lib.hid b2; have Z2 := Lib.hid z2; clear r2 b2 z2)
    | ((with_reducible refine alloc_walk (o := ⟨some 4, _, _, _, _, _⟩) rfl 35 rfl _ rv_zero ?_); go_must (intro w3 r3 b3 z3; have R3 := Lib.hid r3; have B3 := Lib.hid b3; have Z3 := Lib.hid z3; clear r3 b3 z3))
    | ((with_reducible refine alloc_walk (o := ⟨some 5, _, _, _, _, _⟩) rfl 48 rfl _ rp_zero ?_); go_must (intro w4 r4 b4 z4; have R4 := Lib.hid r4; have B4 := Lib.hid b4; have Z4 := Lib.hid z4; clear r4 b4 z4))
    | ((with_reducible refine alloc_walk (o := ⟨some 6, _, _, _, _, _⟩) rfl 50 rfl _ rt_zero ?_); go_must (intro w5 r5 b5 z5; have M5 : Hid (StR w w5 w1.heap.size w2.heap.size w3.heap.size w4.heap.size G (.slice Af nf cf) (.slice Ao no co) (.slice Al nl cl) [.slice A1 n1 c1, .slice A2 n2 c2, .slice A3 n3 c3]) := Lib.hid (by
        have e1 := Z1.out
        have e2 := Z2.out
        have e3 := Z3.out
        have e4 := Z4.out
        exact ⟨(((R1.out.below B2.out).below B3.out).below B4.out).below b5, ((R2.out.below B3.out).below B4.out).below b5, (R3.out.below B4.out).below b5, R4.out.below b5, r5, by omega, below_on (below_on (below_on (below_on B1.out B2.out) B3.out) B4.out) b5⟩); have c11 := M5.out.g.cell 11; simp only [rvC, List.getElem?_cons_zero, List.getElem?_cons_succ] at c11; rw [H1.out] at c11; clear r5 b5 z5)))
  have hM : StR w w5.drew w1.heap.size w2.heap.size w3.heap.size w4.heap.size G (.slice Af nf cf) (.slice Ao no co) (.slice Al nl cl) [.slice A1 n1 c1, .slice A2 n2 c2, .slice A3 n3 c3] := M5.out.quiet (below_q w5 1)
  refine wp_region_held_drew (S := fun W => Row W w.heap.size 35 (rvC G (.slice Af nf cf) (.slice Ao no co) (.slice Al nl cl)) ∧ Row W w1.heap.size 48 [.slice A1 n1 c1, .slice A2 n2 c2, .slice A3 n3 c3]) (by kernel_rfl) ⟨hM.g, hM.p⟩ (fun hHeld => ?_)
  refine wpAnyH_take (i := 0) (oi := { dst := some 15, op := Go.Op.load 35 (Go.Operand.tmp 2), type := 35, pos := "ref.go:240", after := #[], guard := none }) (v := .agg (rvC G (.slice Af nf cf) (.slice Ao no co) (.slice Al nl cl)).toArray) rfl (by kernel_rfl) (by kernel_rfl) (by kernel_rfl) (fun _ _ _ h => h) (yieldsIf_row rfl 35 (.tmp 2) rfl w.heap.size rfl (rvC G (.slice Af nf cf) (.slice Ao no co) (.slice Al nl cl)) rv_struct (HSZ.out _ _ _ _) 35 (fun W h => h.1)) (by assumption) ?_
  try simp only [Act.put, List.setIfInBounds_toArray, List.set_cons_zero, List.set_cons_succ]
  refine wpAnyH_take (i := 1) (oi := { dst := some 16, op := Go.Op.load 48 (Go.Operand.tmp 3), type := 48, pos := "ref.go:240", after := #[{ on := 3, ground := Go.Ground.gcOnly Go.Departure.lateStores }], guard := none }) (v := .agg ([.slice A1 n1 c1, .slice A2 n2 c2, .slice A3 n3 c3]).toArray) rfl (by kernel_rfl) (by kernel_rfl) (by kernel_rfl) (fun _ _ _ h => h) (yieldsIf_row rfl 48 (.tmp 3) rfl w1.heap.size rfl ([.slice A1 n1 c1, .slice A2 n2 c2, .slice A3 n3 c3]) rp_struct (rp_size.trans (congrArg some rfl)) 48 (fun W h => h.2)) (by assumption) ?_
  try simp only [Act.put, List.setIfInBounds_toArray, List.set_cons_zero, List.set_cons_succ]
  refine' wpAnyH_take (i := 2) (oi := { dst := some 17, op := Go.Op.build 50 #[], type := 50, pos := "ref.go:240", after := #[{ on := 4, ground := Go.Ground.gcOnly Go.Departure.lateStores }], guard := none }) (v := _) rfl (by kernel_rfl) (by kernel_rfl) (by kernel_rfl) (fun _ _ _ h => h) (Or.inl ⟨by rfl, ?hy3⟩) (by assumption) ?rest3
  case hy3 => (intro w hSw; (try dsimp only at hSw); go_simp; try with_reducible rfl)
  try simp only [Act.put, List.setIfInBounds_toArray, List.set_cons_zero, List.set_cons_succ]
  refine wpAnyH_ready (rs := [3]) (by kernel_rfl) (by simp) ?_
  refine AllReadyH.cons (o := { dst := none, op := Go.Op.store 35 (Go.Operand.tmp 4) (Go.Operand.tmp 15), type := 0, pos := "ref.go:240", after := #[{ on := 0, ground := Go.Ground.data }, { on := 0, ground := Go.Ground.phase }, { on := 1, ground := Go.Ground.textOnly Go.Departure.lateStores }, { on := 2, ground := Go.Ground.textOnly Go.Departure.lateStores }], guard := none }) rfl (fun K hK => ?_) AllReadyH.nil
  refine storeRow_step rfl 35 (.tmp 4) (.tmp 15) rfl w2.heap.size rfl (rvC G (.slice Af nf cf) (.slice Ao no co) (.slice Al nl cl)) rfl (HSZ.out _ _ _ _) 35 rvZ hM.rg rfl (HONE.out _) ?_
  intro w6 rw6 ow6 zw6
  have g6 := hM.g.only ow6 (fun e => by have := hM.lt; omega)
  have p6 := hM.p.only ow6 (fun e => by have := hM.lt; omega)
  have x6 := hM.rp.only ow6 (fun e => by have := hM.lt; omega)
  have y6 := hM.rt.only ow6 (fun e => by have := hM.lt; omega)
  refine hK.out _ _ ⟨g6, p6⟩ (fun hSx => ?_)
  clear hK K
  try simp only [Act.put]
  refine wpAnyH_ready (rs := [4]) (by kernel_rfl) (by simp) ?_
  refine AllReadyH.cons (o := { dst := none, op := Go.Op.store 48 (Go.Operand.tmp 5) (Go.Operand.tmp 16), type := 0, pos := "ref.go:240", after := #[{ on := 1, ground := Go.Ground.data }, { on := 3, ground := Go.Ground.chain }, { on := 0, ground := Go.Ground.phase }, { on := 1, ground := Go.Ground.phase }, { on := 2, ground := Go.Ground.textOnly Go.Departure.lateStores }, { on := 3, ground := Go.Ground.phase }], guard := none }) rfl (fun K hK => ?_) AllReadyH.nil
  refine storeRow_step rfl 48 (.tmp 5) (.tmp 16) rfl w3.heap.size rfl ([.slice A1 n1 c1, .slice A2 n2 c2, .slice A3 n3 c3]) rfl (rp_size.trans (congrArg some rfl)) 48 plZ x6 rfl rp_one ?_
  intro w7 rw7 ow7 zw7
  have g7 := g6.only ow7 (fun e => by have := hM.lt; omega)
  have p7 := p6.only ow7 (fun e => by have := hM.lt; omega)
  have x7 := rw6.only ow7 (fun e => by have := hM.lt; omega)
  have y7 := y6.only ow7 (fun e => by have := hM.lt; omega)
  refine hK.out _ _ ⟨g7, p7⟩ (fun hSx => ?_)
  clear hK K
  try simp only [Act.put]
  refine wpAnyH_ready (rs := [5]) (by kernel_rfl) (by simp) ?_
  refine AllReadyH.cons (o := { dst := none, op := Go.Op.store 50 (Go.Operand.tmp 6) (Go.Operand.tmp 17), type := 0, pos := "ref.go:240", after := #[{ on := 2, ground := Go.Ground.data }, { on := 4, ground := Go.Ground.chain }, { on := 0, ground := Go.Ground.phase }, { on := 1, ground := Go.Ground.phase }, { on := 2, ground := Go.Ground.phase }, { on := 3, ground := Go.Ground.phase }, { on := 4, ground := Go.Ground.phase }], guard := none }) rfl (fun K hK => ?_) AllReadyH.nil
  refine storeRow_step rfl 50 (.tmp 6) (.tmp 17) rfl w4.heap.size rfl (tcC 0 0 0) rfl (rt_size.trans (congrArg some rfl)) 50 (tcC 0 0 0) y7 rfl (rt_one _ _ _) ?_
  intro w8 rw8 ow8 zw8
  have g8 := g7.only ow8 (fun e => by have := hM.lt; omega)
  have p8 := p7.only ow8 (fun e => by have := hM.lt; omega)
  have x8 := x7.only ow8 (fun e => by have := hM.lt; omega)
  have z8 := rw7.only ow8 (fun e => by have := hM.lt; omega)
  refine hK.out _ _ ⟨g8, p8⟩ (fun hSx => ?_)
  clear hK K
  try simp only [Act.put]
  refine' wpAnyH_take (i := 6) (oi := { dst := some 7, op := Go.Op.assign (Go.Operand.const (Go.Value.bool true)), type := 4, pos := "ref.go:240", after := #[{ on := 5, ground := Go.Ground.chain }, { on := 0, ground := Go.Ground.phase }, { on := 1, ground := Go.Ground.phase }, { on := 2, ground := Go.Ground.phase }, { on := 3, ground := Go.Ground.phase }, { on := 4, ground := Go.Ground.phase }, { on := 5, ground := Go.Ground.phase }], guard := none }) (v := _) rfl (by kernel_rfl) (by kernel_rfl) (by kernel_rfl) (fun _ _ _ h => h) (Or.inl ⟨by rfl, ?hy7⟩) (by assumption) ?rest7
  case hy7 => (intro w hSw; (try dsimp only at hSw); go_simp; try with_reducible rfl)
  try simp only [Act.put, List.setIfInBounds_toArray, List.set_cons_zero, List.set_cons_succ]
  refine' wpAnyH_take (i := 7) (oi := { dst := some 8, op := Go.Op.assign (Go.Operand.const (Go.Value.int Go.IntKind.i64 13)), type := 3, pos := "ref.go:240", after := #[{ on := 6, ground := Go.Ground.chain }, { on := 0, ground := Go.Ground.phase }, { on := 1, ground := Go.Ground.phase }, { on := 2, ground := Go.Ground.phase }, { on := 3, ground := Go.Ground.phase }, { on := 4, ground := Go.Ground.phase }, { on := 5, ground := Go.Ground.phase }, { on := 6, ground := Go.Ground.phase }], guard := none }) (v := _) rfl (by kernel_rfl) (by kernel_rfl) (by kernel_rfl) (fun _ _ _ h => h) (Or.inl ⟨by rfl, ?hy8⟩) (by assumption) ?rest8
  case hy8 => (intro w hSw; (try dsimp only at hSw); go_simp; try with_reducible rfl)
  try simp only [Act.put, List.setIfInBounds_toArray, List.set_cons_zero, List.set_cons_succ]
  refine wpAnyH_done (by kernel_rfl) ?_ _
  have OO : Only (fun y => y = w2.heap.size ∨ y = w3.heap.size ∨ y = w4.heap.size) w5.drew w8 := ((ow6.mono (fun y _ e => .inl e)).trans (ow7.mono (fun y _ e => .inr (.inl e)))).trans (ow8.mono (fun y _ e => .inr (.inr e)))
  have BE : Below w.heap.size w w8 := Only.below hM.below OO hM.below.size (fun y hy e => by have := hM.lt; omega)
  go_wp2
  exact bodyPost_ret (rstep_results Tryd.results14 rfl rfl rfl rfl rfl x8 z8 rw8) rfl ⟨_, _, _, _, _, _, _, _, _, _, _, _, _, _, _, _, _, _, rfl, ⟨(HR.out.free.below BE).weak (fun _ _ h => .inl h), (HR.out.out.below BE).weak (fun _ _ h => .inl h), (HR.out.load.below BE).weak (fun _ _ h => .inl h), HR.out.cf, HR.out.co, HR.out.cl⟩, (HP.out.below BE).weak (fun _ _ h => .inl h), BE⟩
set_option maxRecDepth 100000 in
set_option maxHeartbeats 8000000 in
theorem rstep_more (P Pp : Nat → Prop) (H : Gv) (G : Rv) (VW EW KW : List Int) (n : Int) (w : World) (r : RvL w P G (.slice Af nf cf) (.slice Ao no co) (.slice Al nl cl)) (rp : RPl14 w Pp VW EW KW (.slice A1 n1 c1) (.slice A2 n2 c2) (.slice A3 n3 c3)) (h : Rel16 H G) (ok : Ok16 H) (h0 : H.st ≠ 0) (hl : VW.length ≤ 65536) (hk : KW.length ≤ 65536) (hV : ∀ x ∈ VW, 0 ≤ x ∧ x ≤ 65535) (hn : (dN14 VW EW (tch16 H).1 (tch16 H).2.1) = n) (ha : (raN G H.R n).2 = -1) :
    Calls Tryd.prog 14 #[rvV G (.slice Af nf cf) (.slice Ao no co) (.slice Al nl cl), .agg #[.slice A1 n1 c1, .slice A2 n2 c2, .slice A3 n3 c3]] w (RStp P Pp (raN G H.R n).1 (dV14 VW (tch16 H).1 (tch16 H).2.1 (tch16 H).2.2) EW (dK14 KW (tch16 H).1 (tch16 H).2.1) (dX14 VW EW (tch16 H).1 (tch16 H).2.1 (tch16 H).2.2) false 0 w) := by
  have HSZ := Lib.hid (fun (H : Rv) (a b c : Value) => (rv_size.trans (congrArg some (rv_len H a b c).symm)))
  have HONE := Lib.hid (rv_one (Af := Af) (nf := nf) (cf := cf) (Ao := Ao) (no := no) (co := co) (Al := Al) (nl := nl) (cl := cl))
  have g0 : (G.at_ == 0) = false := by rw [h.at_]; simp; exact h0
  have KT := Lib.hid (fun W (hb : Below w.heap.size w W) => rtch_rel P H G W (r.below hb) h ok h0)
  have KD := Lib.hid (fun W (hb : Below w.heap.size w W) => rdo14_any (P := fun y => (Pp y ∧ y < w.heap.size) ∨ W.heap.size ≤ y) (tch16 H).1 (tch16 H).2.1 (tch16 H).2.2 W hl hk hV (fun y hy => .inr hy) ((rp.weak (Q := fun y => (Pp y ∧ y < w.heap.size) ∨ W.heap.size ≤ y) (fun y hy p => .inl ⟨p, hy⟩)).below hb))
  have KA := Lib.hid (fun W (hr : RvL W (fun y => P y ∧ y < w.heap.size) G (.slice Af nf cf) (.slice Ao no co) (.slice Al nl cl)) => raft_rel (fun y => P y ∧ y < w.heap.size) H G n W hr h ok h0)
  rw [hn] at KD
  obtain ⟨κ, hκ⟩ : ∃ κ, (tch16 H).1 = κ := ⟨_, rfl⟩
  obtain ⟨i, hi⟩ : ∃ i, (tch16 H).2.1 = i := ⟨_, rfl⟩
  obtain ⟨u, hu⟩ : ∃ u, (tch16 H).2.2 = u := ⟨_, rfl⟩
  rw [hκ, hi, hu] at KT KD ⊢
  obtain ⟨VN, hVN⟩ : ∃ VN, dV14 VW κ i u = VN := ⟨_, rfl⟩
  obtain ⟨KN, hKN⟩ : ∃ KN, dK14 KW κ i = KN := ⟨_, rfl⟩
  rw [hVN, hKN]
  rw [hVN, hKN] at KD
  clear hVN hKN
  have HRO := Lib.hid r.old
  obtain ⟨a0, ha0⟩ : ∃ a0, G.at_ = a0 := ⟨_, rfl⟩
  have H1 := Lib.hid ha0
  rw [ha0] at g0
  have HA := Lib.hid ha
  rw [ha] at KA
  clear ha
  clear r rp h ok h0 hl hk hV hn hκ hi hu ha0
  unfold RDo14 touchV at KD
  unfold touchV at KT
  unfold RVA rvV at KA
  unfold rvV at KT ⊢
  go_enter Tryd.func14, Tryd.ntmps14
  go_wp2_with (first
    | ((with_reducible refine box_walk rfl 35 (.tmp 0) rfl (rvC G (.slice Af nf cf) (.slice Ao no co) (.slice Al nl cl)) rfl ?_); intro w1 r1 b1 z1; have R1 := Lib.hid r1; have B1 := Lib.hid b1; have Z1 := Lib.hid z1; clear r1 b1 z1)
    | ((with_reducible refine box_walk rfl 48 (.tmp 1) rfl [.slice A1 n1 c1, .slice A2 n2 c2, .slice A3 n3 c3] rfl ?_); intro w2 r2 b2 z2; have R2 := Lib.hid r2; have B2 := Lib.hid b2; have Z2 := Lib.hid z2; clear r2 b2 z2)
    | ((with_reducible refine alloc_walk (o := ⟨some 4, _, _, _, _, _⟩) rfl 35 rfl _ rv_zero ?_); go_must (intro w3 r3 b3 z3; have R3 := Lib.hid r3; have B3 := Lib.hid b3; have Z3 := Lib.hid z3; clear r3 b3 z3))
    | ((with_reducible refine alloc_walk (o := ⟨some 5, _, _, _, _, _⟩) rfl 48 rfl _ rp_zero ?_); go_must (intro w4 r4 b4 z4; have R4 := Lib.hid r4; have B4 := Lib.hid b4; have Z4 := Lib.hid z4; clear r4 b4 z4))
    | ((with_reducible refine alloc_walk (o := ⟨some 6, _, _, _, _, _⟩) rfl 50 rfl _ rt_zero ?_); go_must (intro w5 r5 b5 z5; have M5 : Hid (StR w w5 w1.heap.size w2.heap.size w3.heap.size w4.heap.size G (.slice Af nf cf) (.slice Ao no co) (.slice Al nl cl) [.slice A1 n1 c1, .slice A2 n2 c2, .slice A3 n3 c3]) := Lib.hid (by
        have e1 := Z1.out
        have e2 := Z2.out
        have e3 := Z3.out
        have e4 := Z4.out
        exact ⟨(((R1.out.below B2.out).below B3.out).below B4.out).below b5, ((R2.out.below B3.out).below B4.out).below b5, (R3.out.below B4.out).below b5, R4.out.below b5, r5, by omega, below_on (below_on (below_on (below_on B1.out B2.out) B3.out) B4.out) b5⟩); have c11 := M5.out.g.cell 11; simp only [rvC, List.getElem?_cons_zero, List.getElem?_cons_succ] at c11; rw [H1.out] at c11; clear r5 b5 z5)))
  have hM0 : StR w w5.drew w1.heap.size w2.heap.size w3.heap.size w4.heap.size G (.slice Af nf cf) (.slice Ao no co) (.slice Al nl cl) [.slice A1 n1 c1, .slice A2 n2 c2, .slice A3 n3 c3] := M5.out.quiet (below_q w5 1)
  refine' (fun (key : PLift (_ : Prop)) => ?main) ⟨?loop⟩
  case main =>
    have hM := hM0
    refine wp_region_held_drew (S := fun W => Row W w.heap.size 35 (rvC G (.slice Af nf cf) (.slice Ao no co) (.slice Al nl cl))) (by kernel_rfl) hM.g (fun hHeld => ?_)
    refine wpAnyH_take (i := 1) (oi := { dst := some 20, op := Go.Op.load 35 (Go.Operand.tmp 2), type := 35, pos := "ref.go:242", after := #[], guard := none }) (v := .agg (rvC G (.slice Af nf cf) (.slice Ao no co) (.slice Al nl cl)).toArray) rfl (by kernel_rfl) (by kernel_rfl) (by kernel_rfl) (fun _ _ _ h => h) (yieldsIf_row rfl 35 (.tmp 2) rfl w.heap.size rfl (rvC G (.slice Af nf cf) (.slice Ao no co) (.slice Al nl cl)) rv_struct (HSZ.out _ _ _ _) 35 (fun W h => h)) (by assumption) ?_
    try simp only [Act.put, List.setIfInBounds_toArray, List.set_cons_zero, List.set_cons_succ]
    refine wpAnyH_ready (rs := [0, 2, 8]) (by kernel_rfl) (by simp) ?_
    refine AllReadyH.cons (o := { dst := some 19, op := Go.Op.load 48 (Go.Operand.tmp 3), type := 48, pos := "ref.go:242", after := #[], guard := none }) rfl (fun K hK => ?_) (AllReadyH.cons (o := { dst := some 21, op := Go.Op.call { callee := Go.Callee.value (Go.Operand.func 36), args := #[Go.Operand.tmp 20], argTypes := #[35] }, type := 50, pos := "ref.go:242", after := #[{ on := 1, ground := Go.Ground.data }], guard := none }) rfl (fun K hK => ?_) (AllReadyH.cons (o := { dst := some 9, op := Go.Op.alloc 50, type := 0, pos := "ref.go:242", after := #[], guard := none }) rfl (fun K hK => ?_) AllReadyH.nil))
    · refine loadRow_step rfl 48 (.tmp 3) rfl w1.heap.size rfl [.slice A1 n1 c1, .slice A2 n2 c2, .slice A3 n3 c3] rp_struct (rp_size.trans (congrArg some rfl)) 48 hM.p ?_
      refine hK.out _ _ hM.g (fun hSx => ?_)
      clear hK K
      try simp only [Act.put, List.setIfInBounds_toArray, List.set_cons_zero, List.set_cons_succ]
      refine wpAnyH_ready (rs := [2, 8]) (by kernel_rfl) (by simp) ?_
      refine AllReadyH.cons (o := { dst := some 21, op := Go.Op.call { callee := Go.Callee.value (Go.Operand.func 36), args := #[Go.Operand.tmp 20], argTypes := #[35] }, type := 50, pos := "ref.go:242", after := #[{ on := 1, ground := Go.Ground.data }], guard := none }) rfl (fun K hK => ?_) (AllReadyH.cons (o := { dst := some 9, op := Go.Op.alloc 50, type := 0, pos := "ref.go:242", after := #[], guard := none }) rfl (fun K hK => ?_) AllReadyH.nil)
      · go_simp
        go_at_call 36
        refine (KT.out _ hM.below).mono ?_
        rintro e wA ⟨rfl, bA⟩
        have hMA := hM.quiet bA
        clear hM
        have hM := hMA
        clear hMA
        go_wp2_with fail
        refine hK.out _ _ hM.g (fun hSx => ?_)
        clear hK K
        try simp only [Act.put, List.setIfInBounds_toArray, List.set_cons_zero, List.set_cons_succ]
        refine wpAnyH_ready (rs := [3, 8]) (by kernel_rfl) (by simp) ?_
        refine AllReadyH.cons (o := { dst := some 22, op := Go.Op.call { callee := Go.Callee.value (Go.Operand.func 35), args := #[Go.Operand.tmp 19, Go.Operand.tmp 21], argTypes := #[48, 50] }, type := 79, pos := "ref.go:242", after := #[{ on := 0, ground := Go.Ground.data }, { on := 2, ground := Go.Ground.data }, { on := 2, ground := Go.Ground.chain }], guard := none }) rfl (fun K hK => ?_) (AllReadyH.cons (o := { dst := some 9, op := Go.Op.alloc 50, type := 0, pos := "ref.go:242", after := #[], guard := none }) rfl (fun K hK => ?_) AllReadyH.nil)
        · go_simp
          go_at_call 35
          refine (KD.out _ hM.below).mono ?_
          rintro e wD ⟨X1, y1, z1, X2, y2, z2, X3, y3, z3, rfl, lD, bD⟩
          have hMD := hM.quiet bD
          have hs3 := hM.lt.2.2.2.2
          have hL := lD.weak (Q := fun y => (Pp y ∨ w.heap.size ≤ y) ∧ (y < w.heap.size ∨ w4.heap.size < y)) (fun y hy p => ⟨by rcases p with p | p; exact .inl p.1; exact .inr (by have := hM.below.size; omega), by rcases p with p | p <;> omega⟩)
          clear hM lD
          have hM := hMD
          clear hMD
          go_wp2_with fail
          refine hK.out _ _ hM.g (fun hSx => ?_)
          clear hK K
          try simp only [Act.put, List.setIfInBounds_toArray, List.set_cons_zero, List.set_cons_succ]
          refine' wpAnyH_take (i := 4) (oi := { dst := some 18, op := Go.Op.move (Go.Operand.tmp 22), type := 79, pos := "ref.go:242", after := #[{ on := 3, ground := Go.Ground.data }], guard := none }) (v := _) rfl (by kernel_rfl) (by kernel_rfl) (by kernel_rfl) (fun _ _ _ h => h) (Or.inl ⟨by rfl, ?hy18⟩) (by assumption) ?rest18
          case hy18 => (intro w hSw; (try dsimp only at hSw); go_simp; try with_reducible rfl)
          try simp only [Act.put, List.setIfInBounds_toArray, List.set_cons_zero, List.set_cons_succ]
          refine' wpAnyH_take (i := 5) (oi := { dst := some 23, op := Go.Op.extract (Go.Operand.tmp 18) 0, type := 48, pos := "ref.go:242", after := #[{ on := 4, ground := Go.Ground.data }], guard := none }) (v := _) rfl (by kernel_rfl) (by kernel_rfl) (by kernel_rfl) (fun _ _ _ h => h) (Or.inl ⟨by rfl, ?hy19⟩) (by assumption) ?rest19
          case hy19 => (intro w hSw; (try dsimp only at hSw); go_simp; try with_reducible rfl)
          try simp only [Act.put, List.setIfInBounds_toArray, List.set_cons_zero, List.set_cons_succ]
          refine' wpAnyH_take (i := 6) (oi := { dst := some 24, op := Go.Op.extract (Go.Operand.tmp 18) 1, type := 50, pos := "ref.go:242", after := #[{ on := 4, ground := Go.Ground.data }, { on := 9, ground := Go.Ground.gcOnly Go.Departure.lateStores }], guard := none }) (v := _) rfl (by kernel_rfl) (by kernel_rfl) (by kernel_rfl) (fun _ _ _ h => h) (Or.inl ⟨by rfl, ?hy20⟩) (by assumption) ?rest20
          case hy20 => (intro w hSw; (try dsimp only at hSw); go_simp; try with_reducible rfl)
          try simp only [Act.put, List.setIfInBounds_toArray, List.set_cons_zero, List.set_cons_succ]
          refine' wpAnyH_take (i := 7) (oi := { dst := some 25, op := Go.Op.extract (Go.Operand.tmp 18) 2, type := 3, pos := "ref.go:242", after := #[{ on := 4, ground := Go.Ground.data }, { on := 10, ground := Go.Ground.gcOnly Go.Departure.lateStores }], guard := none }) (v := _) rfl (by kernel_rfl) (by kernel_rfl) (by kernel_rfl) (fun _ _ _ h => h) (Or.inl ⟨by rfl, ?hy21⟩) (by assumption) ?rest21
          case hy21 => (intro w hSw; (try dsimp only at hSw); go_simp; try with_reducible rfl)
          try simp only [Act.put, List.setIfInBounds_toArray, List.set_cons_zero, List.set_cons_succ]
          refine wpAnyH_ready (rs := [8]) (by kernel_rfl) (by simp) ?_
          refine AllReadyH.cons (o := { dst := some 9, op := Go.Op.alloc 50, type := 0, pos := "ref.go:242", after := #[], guard := none }) rfl (fun K hK => ?_) AllReadyH.nil
          refine alloc_step rfl 50 rfl _ rt_zero ?_
          intro wB rB bB zB
          have hMB := hM.quiet bB
          have ht4 : w4.heap.size < wD.heap.size := hM.lt.2.2.2.2
          have hLB := hL.below bB
          have hyT := hL.weak (Q := fun y => (Pp y ∨ w.heap.size ≤ y) ∧ (y < w.heap.size ∨ w4.heap.size < y) ∧ y ≠ wD.heap.size) (fun y hy p => ⟨p.1, p.2, by omega⟩)
          have hLT := hyT.below bB
          clear hL hLB hyT
          have hL := hLT
          clear hLT
          clear hM
          have hM := hMB
          clear hMB
          have hT : Row wB wD.heap.size 50 (tcC 0 0 0) := rB
          clear rB bB
          refine hK.out _ _ hM.g (fun hSx => ?_)
          clear hK K
          try simp only [Act.put, List.setIfInBounds_toArray, List.set_cons_zero, List.set_cons_succ]
          refine wpAnyH_ready (rs := [9]) (by kernel_rfl) (by simp) ?_
          refine AllReadyH.cons (o := { dst := none, op := Go.Op.store 48 (Go.Operand.tmp 3) (Go.Operand.tmp 23), type := 0, pos := "ref.go:242", after := #[{ on := 5, ground := Go.Ground.data }, { on := 3, ground := Go.Ground.chain }, { on := 0, ground := Go.Ground.phase }, { on := 1, ground := Go.Ground.phase }, { on := 2, ground := Go.Ground.phase }, { on := 3, ground := Go.Ground.phase }, { on := 4, ground := Go.Ground.phase }, { on := 5, ground := Go.Ground.phase }, { on := 6, ground := Go.Ground.textOnly Go.Departure.lateStores }, { on := 7, ground := Go.Ground.textOnly Go.Departure.lateStores }, { on := 8, ground := Go.Ground.phase }], guard := none }) rfl (fun K hK => ?_) AllReadyH.nil
          refine storeRow_step rfl 48 (.tmp 3) (.tmp 23) rfl w1.heap.size rfl ([.slice X1 y1 z1, .slice X2 y2 z2, .slice X3 y3 z3]) rfl (rp_size.trans (congrArg some rfl)) 48 [.slice A1 n1 c1, .slice A2 n2 c2, .slice A3 n3 c3] hM.p rfl rp_one ?_
          intro wE rwE owE zwE
          have hME := hM.plain owE rwE
          have hTE := hT.only owE (fun e => by have := hM.lt; omega)
          have hLE := hL.only owE (fun y e p => by have := hM.lt; omega)
          clear hM hT hL
          have hM := hME
          have hT := hTE
          have hL := hLE
          clear hME hTE hLE
          refine hK.out _ _ hM.g (fun hSx => ?_)
          clear hK K
          try simp only [Act.put]
          refine wpAnyH_ready (rs := [10]) (by kernel_rfl) (by simp) ?_
          refine AllReadyH.cons (o := { dst := none, op := Go.Op.store 50 (Go.Operand.tmp 9) (Go.Operand.tmp 24), type := 0, pos := "ref.go:242", after := #[{ on := 8, ground := Go.Ground.data }, { on := 6, ground := Go.Ground.data }, { on := 9, ground := Go.Ground.chain }, { on := 0, ground := Go.Ground.phase }, { on := 1, ground := Go.Ground.phase }, { on := 2, ground := Go.Ground.phase }, { on := 3, ground := Go.Ground.phase }, { on := 4, ground := Go.Ground.phase }, { on := 5, ground := Go.Ground.phase }, { on := 6, ground := Go.Ground.phase }, { on := 7, ground := Go.Ground.textOnly Go.Departure.lateStores }, { on := 8, ground := Go.Ground.phase }, { on := 9, ground := Go.Ground.phase }], guard := none }) rfl (fun K hK => ?_) AllReadyH.nil
          refine storeRow_step rfl 50 (.tmp 9) (.tmp 24) rfl wD.heap.size rfl (tcC (dX14 VW EW κ i u).1 (dX14 VW EW κ i u).2.1 (dX14 VW EW κ i u).2.2) rfl (rt_size.trans (congrArg some rfl)) 50 (tcC 0 0 0) hT rfl (rt_one _ _ _) ?_
          intro wF rwF owF zwF
          have hMF := hM.other owF (by omega)
          have hLF := hL.only owF (fun y e p => by omega)
          clear hM hT hL
          have hM := hMF
          have hL := hLF
          clear hMF hLF
          refine hK.out _ _ hM.g (fun hSx => ?_)
          clear hK K
          try simp only [Act.put]
          refine' wpAnyH_take (i := 11) (oi := { dst := some 10, op := Go.Op.assign (Go.Operand.tmp 25), type := 3, pos := "ref.go:242", after := #[{ on := 7, ground := Go.Ground.data }, { on := 10, ground := Go.Ground.chain }, { on := 0, ground := Go.Ground.phase }, { on := 1, ground := Go.Ground.phase }, { on := 2, ground := Go.Ground.phase }, { on := 3, ground := Go.Ground.phase }, { on := 4, ground := Go.Ground.phase }, { on := 5, ground := Go.Ground.phase }, { on := 6, ground := Go.Ground.phase }, { on := 7, ground := Go.Ground.phase }, { on := 8, ground := Go.Ground.phase }, { on := 9, ground := Go.Ground.phase }, { on := 10, ground := Go.Ground.phase }], guard := none }) (v := _) rfl (by kernel_rfl) (by kernel_rfl) (by kernel_rfl) (fun _ _ _ h => h) (Or.inl ⟨by rfl, ?hy25⟩) (by assumption) ?rest25
          case hy25 => (intro w hSw; (try dsimp only at hSw); go_simp; try with_reducible rfl)
          try simp only [Act.put, List.setIfInBounds_toArray, List.set_cons_zero, List.set_cons_succ]
          refine wpAnyH_done (by kernel_rfl) ?_ _
          have I : MidR w wF w1.heap.size w2.heap.size w3.heap.size w4.heap.size (wD.heap.size) P Pp G (.slice Af nf cf) (.slice Ao no co) (.slice Al nl cl) VN EW KN (dX14 VW EW κ i u) (.slice X1 y1 z1) (.slice X2 y2 z2) (.slice X3 y3 z3) := ⟨hM, rwF, by omega, hL, HRO.out.below hM.below⟩
          clear hM hL rwE rwF owF zwF hSx
          generalize (wD.heap.size) = gT at I ⊢
          revert I
          revert gT
          revert wF X1 y1 z1 X2 y2 z2 X3 y3 z3
          exact key.down
        · refine alloc_step rfl 50 rfl _ rt_zero ?_
          intro wB rB bB zB
          have hMB := hM.quiet bB
          have ht4 : w4.heap.size < wA.heap.size := hM.lt.2.2.2.2
          clear hM
          have hM := hMB
          clear hMB
          have hT : Row wB wA.heap.size 50 (tcC 0 0 0) := rB
          clear rB bB
          refine hK.out _ _ hM.g (fun hSx => ?_)
          clear hK K
          try simp only [Act.put, List.setIfInBounds_toArray, List.set_cons_zero, List.set_cons_succ]
          refine wpAnyH_ready (rs := [3]) (by kernel_rfl) (by simp) ?_
          refine AllReadyH.cons (o := { dst := some 22, op := Go.Op.call { callee := Go.Callee.value (Go.Operand.func 35), args := #[Go.Operand.tmp 19, Go.Operand.tmp 21], argTypes := #[48, 50] }, type := 79, pos := "ref.go:242", after := #[{ on := 0, ground := Go.Ground.data }, { on := 2, ground := Go.Ground.data }, { on := 2, ground := Go.Ground.chain }], guard := none }) rfl (fun K hK => ?_) AllReadyH.nil
          go_simp
          go_at_call 35
          refine (KD.out _ hM.below).mono ?_
          rintro e wD ⟨X1, y1, z1, X2, y2, z2, X3, y3, z3, rfl, lD, bD⟩
          have hMD := hM.quiet bD
          have hs3 := hM.lt.2.2.2.2
          have hTD := hT.below bD
          have hst := hT.lt
          have hL := lD.weak (Q := fun y => (Pp y ∨ w.heap.size ≤ y) ∧ (y < w.heap.size ∨ w4.heap.size < y) ∧ y ≠ wA.heap.size) (fun y hy p => ⟨by rcases p with p | p; exact .inl p.1; exact .inr (by have := hM.below.size; omega), by rcases p with p | p <;> omega, by rcases p with p | p; have := hM.below.size; have := hM.lt; omega; omega⟩)
          clear hM lD
          have hM := hMD
          clear hMD
          clear hT
          have hT := hTD
          clear hTD
          go_wp2_with fail
          refine hK.out _ _ hM.g (fun hSx => ?_)
          clear hK K
          try simp only [Act.put, List.setIfInBounds_toArray, List.set_cons_zero, List.set_cons_succ]
          refine' wpAnyH_take (i := 4) (oi := { dst := some 18, op := Go.Op.move (Go.Operand.tmp 22), type := 79, pos := "ref.go:242", after := #[{ on := 3, ground := Go.Ground.data }], guard := none }) (v := _) rfl (by kernel_rfl) (by kernel_rfl) (by kernel_rfl) (fun _ _ _ h => h) (Or.inl ⟨by rfl, ?hy27⟩) (by assumption) ?rest27
          case hy27 => (intro w hSw; (try dsimp only at hSw); go_simp; try with_reducible rfl)
          try simp only [Act.put, List.setIfInBounds_toArray, List.set_cons_zero, List.set_cons_succ]
          refine' wpAnyH_take (i := 5) (oi := { dst := some 23, op := Go.Op.extract (Go.Operand.tmp 18) 0, type := 48, pos := "ref.go:242", after := #[{ on := 4, ground := Go.Ground.data }], guard := none }) (v := _) rfl (by kernel_rfl) (by kernel_rfl) (by kernel_rfl) (fun _ _ _ h => h) (Or.inl ⟨by rfl, ?hy28⟩) (by assumption) ?rest28
          case hy28 => (intro w hSw; (try dsimp only at hSw); go_simp; try with_reducible rfl)
          try simp only [Act.put, List.setIfInBounds_toArray, List.set_cons_zero, List.set_cons_succ]
          refine' wpAnyH_take (i := 6) (oi := { dst := some 24, op := Go.Op.extract (Go.Operand.tmp 18) 1, type := 50, pos := "ref.go:242", after := #[{ on := 4, ground := Go.Ground.data }, { on := 9, ground := Go.Ground.gcOnly Go.Departure.lateStores }], guard := none }) (v := _) rfl (by kernel_rfl) (by kernel_rfl) (by kernel_rfl) (fun _ _ _ h => h) (Or.inl ⟨by rfl, ?hy29⟩) (by assumption) ?rest29
          case hy29 => (intro w hSw; (try dsimp only at hSw); go_simp; try with_reducible rfl)
          try simp only [Act.put, List.setIfInBounds_toArray, List.set_cons_zero, List.set_cons_succ]
          refine' wpAnyH_take (i := 7) (oi := { dst := some 25, op := Go.Op.extract (Go.Operand.tmp 18) 2, type := 3, pos := "ref.go:242", after := #[{ on := 4, ground := Go.Ground.data }, { on := 10, ground := Go.Ground.gcOnly Go.Departure.lateStores }], guard := none }) (v := _) rfl (by kernel_rfl) (by kernel_rfl) (by kernel_rfl) (fun _ _ _ h => h) (Or.inl ⟨by rfl, ?hy30⟩) (by assumption) ?rest30
          case hy30 => (intro w hSw; (try dsimp only at hSw); go_simp; try with_reducible rfl)
          try simp only [Act.put, List.setIfInBounds_toArray, List.set_cons_zero, List.set_cons_succ]
          refine wpAnyH_ready (rs := [9]) (by kernel_rfl) (by simp) ?_
          refine AllReadyH.cons (o := { dst := none, op := Go.Op.store 48 (Go.Operand.tmp 3) (Go.Operand.tmp 23), type := 0, pos := "ref.go:242", after := #[{ on := 5, ground := Go.Ground.data }, { on := 3, ground := Go.Ground.chain }, { on := 0, ground := Go.Ground.phase }, { on := 1, ground := Go.Ground.phase }, { on := 2, ground := Go.Ground.phase }, { on := 3, ground := Go.Ground.phase }, { on := 4, ground := Go.Ground.phase }, { on := 5, ground := Go.Ground.phase }, { on := 6, ground := Go.Ground.textOnly Go.Departure.lateStores }, { on := 7, ground := Go.Ground.textOnly Go.Departure.lateStores }, { on := 8, ground := Go.Ground.phase }], guard := none }) rfl (fun K hK => ?_) AllReadyH.nil
          refine storeRow_step rfl 48 (.tmp 3) (.tmp 23) rfl w1.heap.size rfl ([.slice X1 y1 z1, .slice X2 y2 z2, .slice X3 y3 z3]) rfl (rp_size.trans (congrArg some rfl)) 48 [.slice A1 n1 c1, .slice A2 n2 c2, .slice A3 n3 c3] hM.p rfl rp_one ?_
          intro wE rwE owE zwE
          have hME := hM.plain owE rwE
          have hTE := hT.only owE (fun e => by have := hM.lt; omega)
          have hLE := hL.only owE (fun y e p => by have := hM.lt; omega)
          clear hM hT hL
          have hM := hME
          have hT := hTE
          have hL := hLE
          clear hME hTE hLE
          refine hK.out _ _ hM.g (fun hSx => ?_)
          clear hK K
          try simp only [Act.put]
          refine wpAnyH_ready (rs := [10]) (by kernel_rfl) (by simp) ?_
          refine AllReadyH.cons (o := { dst := none, op := Go.Op.store 50 (Go.Operand.tmp 9) (Go.Operand.tmp 24), type := 0, pos := "ref.go:242", after := #[{ on := 8, ground := Go.Ground.data }, { on := 6, ground := Go.Ground.data }, { on := 9, ground := Go.Ground.chain }, { on := 0, ground := Go.Ground.phase }, { on := 1, ground := Go.Ground.phase }, { on := 2, ground := Go.Ground.phase }, { on := 3, ground := Go.Ground.phase }, { on := 4, ground := Go.Ground.phase }, { on := 5, ground := Go.Ground.phase }, { on := 6, ground := Go.Ground.phase }, { on := 7, ground := Go.Ground.textOnly Go.Departure.lateStores }, { on := 8, ground := Go.Ground.phase }, { on := 9, ground := Go.Ground.phase }], guard := none }) rfl (fun K hK => ?_) AllReadyH.nil
          refine storeRow_step rfl 50 (.tmp 9) (.tmp 24) rfl wA.heap.size rfl (tcC (dX14 VW EW κ i u).1 (dX14 VW EW κ i u).2.1 (dX14 VW EW κ i u).2.2) rfl (rt_size.trans (congrArg some rfl)) 50 (tcC 0 0 0) hT rfl (rt_one _ _ _) ?_
          intro wF rwF owF zwF
          have hMF := hM.other owF (by omega)
          have hLF := hL.only owF (fun y e p => by omega)
          clear hM hT hL
          have hM := hMF
          have hL := hLF
          clear hMF hLF
          refine hK.out _ _ hM.g (fun hSx => ?_)
          clear hK K
          try simp only [Act.put]
          refine' wpAnyH_take (i := 11) (oi := { dst := some 10, op := Go.Op.assign (Go.Operand.tmp 25), type := 3, pos := "ref.go:242", after := #[{ on := 7, ground := Go.Ground.data }, { on := 10, ground := Go.Ground.chain }, { on := 0, ground := Go.Ground.phase }, { on := 1, ground := Go.Ground.phase }, { on := 2, ground := Go.Ground.phase }, { on := 3, ground := Go.Ground.phase }, { on := 4, ground := Go.Ground.phase }, { on := 5, ground := Go.Ground.phase }, { on := 6, ground := Go.Ground.phase }, { on := 7, ground := Go.Ground.phase }, { on := 8, ground := Go.Ground.phase }, { on := 9, ground := Go.Ground.phase }, { on := 10, ground := Go.Ground.phase }], guard := none }) (v := _) rfl (by kernel_rfl) (by kernel_rfl) (by kernel_rfl) (fun _ _ _ h => h) (Or.inl ⟨by rfl, ?hy33⟩) (by assumption) ?rest33
          case hy33 => (intro w hSw; (try dsimp only at hSw); go_simp; try with_reducible rfl)
          try simp only [Act.put, List.setIfInBounds_toArray, List.set_cons_zero, List.set_cons_succ]
          refine wpAnyH_done (by kernel_rfl) ?_ _
          have I : MidR w wF w1.heap.size w2.heap.size w3.heap.size w4.heap.size (wA.heap.size) P Pp G (.slice Af nf cf) (.slice Ao no co) (.slice Al nl cl) VN EW KN (dX14 VW EW κ i u) (.slice X1 y1 z1) (.slice X2 y2 z2) (.slice X3 y3 z3) := ⟨hM, rwF, by omega, hL, HRO.out.below hM.below⟩
          clear hM hL rwE rwF owF zwF hSx
          generalize (wA.heap.size) = gT at I ⊢
          revert I
          revert gT
          revert wF X1 y1 z1 X2 y2 z2 X3 y3 z3
          exact key.down
      · refine alloc_step rfl 50 rfl _ rt_zero ?_
        intro wB rB bB zB
        have hMB := hM.quiet bB
        have ht4 : w4.heap.size < w5.heap.size := hM.lt.2.2.2.2
        clear hM
        have hM := hMB
        clear hMB
        have hT : Row wB w5.heap.size 50 (tcC 0 0 0) := rB
        clear rB bB
        refine hK.out _ _ hM.g (fun hSx => ?_)
        clear hK K
        try simp only [Act.put, List.setIfInBounds_toArray, List.set_cons_zero, List.set_cons_succ]
        refine wpAnyH_ready (rs := [2]) (by kernel_rfl) (by simp) ?_
        refine AllReadyH.cons (o := { dst := some 21, op := Go.Op.call { callee := Go.Callee.value (Go.Operand.func 36), args := #[Go.Operand.tmp 20], argTypes := #[35] }, type := 50, pos := "ref.go:242", after := #[{ on := 1, ground := Go.Ground.data }], guard := none }) rfl (fun K hK => ?_) AllReadyH.nil
        go_simp
        go_at_call 36
        refine (KT.out _ hM.below).mono ?_
        rintro e wA ⟨rfl, bA⟩
        have hMA := hM.quiet bA
        have hTA := hT.below bA
        clear hM
        have hM := hMA
        clear hMA
        clear hT
        have hT := hTA
        clear hTA
        go_wp2_with fail
        refine hK.out _ _ hM.g (fun hSx => ?_)
        clear hK K
        try simp only [Act.put, List.setIfInBounds_toArray, List.set_cons_zero, List.set_cons_succ]
        refine wpAnyH_ready (rs := [3]) (by kernel_rfl) (by simp) ?_
        refine AllReadyH.cons (o := { dst := some 22, op := Go.Op.call { callee := Go.Callee.value (Go.Operand.func 35), args := #[Go.Operand.tmp 19, Go.Operand.tmp 21], argTypes := #[48, 50] }, type := 79, pos := "ref.go:242", after := #[{ on := 0, ground := Go.Ground.data }, { on := 2, ground := Go.Ground.data }, { on := 2, ground := Go.Ground.chain }], guard := none }) rfl (fun K hK => ?_) AllReadyH.nil
        go_simp
        go_at_call 35
        refine (KD.out _ hM.below).mono ?_
        rintro e wD ⟨X1, y1, z1, X2, y2, z2, X3, y3, z3, rfl, lD, bD⟩
        have hMD := hM.quiet bD
        have hs3 := hM.lt.2.2.2.2
        have hTD := hT.below bD
        have hst := hT.lt
        have hL := lD.weak (Q := fun y => (Pp y ∨ w.heap.size ≤ y) ∧ (y < w.heap.size ∨ w4.heap.size < y) ∧ y ≠ w5.heap.size) (fun y hy p => ⟨by rcases p with p | p; exact .inl p.1; exact .inr (by have := hM.below.size; omega), by rcases p with p | p <;> omega, by rcases p with p | p; have := hM.below.size; have := hM.lt; omega; omega⟩)
        clear hM lD
        have hM := hMD
        clear hMD
        clear hT
        have hT := hTD
        clear hTD
        go_wp2_with fail
        refine hK.out _ _ hM.g (fun hSx => ?_)
        clear hK K
        try simp only [Act.put, List.setIfInBounds_toArray, List.set_cons_zero, List.set_cons_succ]
        refine' wpAnyH_take (i := 4) (oi := { dst := some 18, op := Go.Op.move (Go.Operand.tmp 22), type := 79, pos := "ref.go:242", after := #[{ on := 3, ground := Go.Ground.data }], guard := none }) (v := _) rfl (by kernel_rfl) (by kernel_rfl) (by kernel_rfl) (fun _ _ _ h => h) (Or.inl ⟨by rfl, ?hy36⟩) (by assumption) ?rest36
        case hy36 => (intro w hSw; (try dsimp only at hSw); go_simp; try with_reducible rfl)
        try simp only [Act.put, List.setIfInBounds_toArray, List.set_cons_zero, List.set_cons_succ]
        refine' wpAnyH_take (i := 5) (oi := { dst := some 23, op := Go.Op.extract (Go.Operand.tmp 18) 0, type := 48, pos := "ref.go:242", after := #[{ on := 4, ground := Go.Ground.data }], guard := none }) (v := _) rfl (by kernel_rfl) (by kernel_rfl) (by kernel_rfl) (fun _ _ _ h => h) (Or.inl ⟨by rfl, ?hy37⟩) (by assumption) ?rest37
        case hy37 => (intro w hSw; (try dsimp only at hSw); go_simp; try with_reducible rfl)
        try simp only [Act.put, List.setIfInBounds_toArray, List.set_cons_zero, List.set_cons_succ]
        refine' wpAnyH_take (i := 6) (oi := { dst := some 24, op := Go.Op.extract (Go.Operand.tmp 18) 1, type := 50, pos := "ref.go:242", after := #[{ on := 4, ground := Go.Ground.data }, { on := 9, ground := Go.Ground.gcOnly Go.Departure.lateStores }], guard := none }) (v := _) rfl (by kernel_rfl) (by kernel_rfl) (by kernel_rfl) (fun _ _ _ h => h) (Or.inl ⟨by rfl, ?hy38⟩) (by assumption) ?rest38
        case hy38 => (intro w hSw; (try dsimp only at hSw); go_simp; try with_reducible rfl)
        try simp only [Act.put, List.setIfInBounds_toArray, List.set_cons_zero, List.set_cons_succ]
        refine' wpAnyH_take (i := 7) (oi := { dst := some 25, op := Go.Op.extract (Go.Operand.tmp 18) 2, type := 3, pos := "ref.go:242", after := #[{ on := 4, ground := Go.Ground.data }, { on := 10, ground := Go.Ground.gcOnly Go.Departure.lateStores }], guard := none }) (v := _) rfl (by kernel_rfl) (by kernel_rfl) (by kernel_rfl) (fun _ _ _ h => h) (Or.inl ⟨by rfl, ?hy39⟩) (by assumption) ?rest39
        case hy39 => (intro w hSw; (try dsimp only at hSw); go_simp; try with_reducible rfl)
        try simp only [Act.put, List.setIfInBounds_toArray, List.set_cons_zero, List.set_cons_succ]
        refine wpAnyH_ready (rs := [9]) (by kernel_rfl) (by simp) ?_
        refine AllReadyH.cons (o := { dst := none, op := Go.Op.store 48 (Go.Operand.tmp 3) (Go.Operand.tmp 23), type := 0, pos := "ref.go:242", after := #[{ on := 5, ground := Go.Ground.data }, { on := 3, ground := Go.Ground.chain }, { on := 0, ground := Go.Ground.phase }, { on := 1, ground := Go.Ground.phase }, { on := 2, ground := Go.Ground.phase }, { on := 3, ground := Go.Ground.phase }, { on := 4, ground := Go.Ground.phase }, { on := 5, ground := Go.Ground.phase }, { on := 6, ground := Go.Ground.textOnly Go.Departure.lateStores }, { on := 7, ground := Go.Ground.textOnly Go.Departure.lateStores }, { on := 8, ground := Go.Ground.phase }], guard := none }) rfl (fun K hK => ?_) AllReadyH.nil
        refine storeRow_step rfl 48 (.tmp 3) (.tmp 23) rfl w1.heap.size rfl ([.slice X1 y1 z1, .slice X2 y2 z2, .slice X3 y3 z3]) rfl (rp_size.trans (congrArg some rfl)) 48 [.slice A1 n1 c1, .slice A2 n2 c2, .slice A3 n3 c3] hM.p rfl rp_one ?_
        intro wE rwE owE zwE
        have hME := hM.plain owE rwE
        have hTE := hT.only owE (fun e => by have := hM.lt; omega)
        have hLE := hL.only owE (fun y e p => by have := hM.lt; omega)
        clear hM hT hL
        have hM := hME
        have hT := hTE
        have hL := hLE
        clear hME hTE hLE
        refine hK.out _ _ hM.g (fun hSx => ?_)
        clear hK K
        try simp only [Act.put]
        refine wpAnyH_ready (rs := [10]) (by kernel_rfl) (by simp) ?_
        refine AllReadyH.cons (o := { dst := none, op := Go.Op.store 50 (Go.Operand.tmp 9) (Go.Operand.tmp 24), type := 0, pos := "ref.go:242", after := #[{ on := 8, ground := Go.Ground.data }, { on := 6, ground := Go.Ground.data }, { on := 9, ground := Go.Ground.chain }, { on := 0, ground := Go.Ground.phase }, { on := 1, ground := Go.Ground.phase }, { on := 2, ground := Go.Ground.phase }, { on := 3, ground := Go.Ground.phase }, { on := 4, ground := Go.Ground.phase }, { on := 5, ground := Go.Ground.phase }, { on := 6, ground := Go.Ground.phase }, { on := 7, ground := Go.Ground.textOnly Go.Departure.lateStores }, { on := 8, ground := Go.Ground.phase }, { on := 9, ground := Go.Ground.phase }], guard := none }) rfl (fun K hK => ?_) AllReadyH.nil
        refine storeRow_step rfl 50 (.tmp 9) (.tmp 24) rfl w5.heap.size rfl (tcC (dX14 VW EW κ i u).1 (dX14 VW EW κ i u).2.1 (dX14 VW EW κ i u).2.2) rfl (rt_size.trans (congrArg some rfl)) 50 (tcC 0 0 0) hT rfl (rt_one _ _ _) ?_
        intro wF rwF owF zwF
        have hMF := hM.other owF (by omega)
        have hLF := hL.only owF (fun y e p => by omega)
        clear hM hT hL
        have hM := hMF
        have hL := hLF
        clear hMF hLF
        refine hK.out _ _ hM.g (fun hSx => ?_)
        clear hK K
        try simp only [Act.put]
        refine' wpAnyH_take (i := 11) (oi := { dst := some 10, op := Go.Op.assign (Go.Operand.tmp 25), type := 3, pos := "ref.go:242", after := #[{ on := 7, ground := Go.Ground.data }, { on := 10, ground := Go.Ground.chain }, { on := 0, ground := Go.Ground.phase }, { on := 1, ground := Go.Ground.phase }, { on := 2, ground := Go.Ground.phase }, { on := 3, ground := Go.Ground.phase }, { on := 4, ground := Go.Ground.phase }, { on := 5, ground := Go.Ground.phase }, { on := 6, ground := Go.Ground.phase }, { on := 7, ground := Go.Ground.phase }, { on := 8, ground := Go.Ground.phase }, { on := 9, ground := Go.Ground.phase }, { on := 10, ground := Go.Ground.phase }], guard := none }) (v := _) rfl (by kernel_rfl) (by kernel_rfl) (by kernel_rfl) (fun _ _ _ h => h) (Or.inl ⟨by rfl, ?hy42⟩) (by assumption) ?rest42
        case hy42 => (intro w hSw; (try dsimp only at hSw); go_simp; try with_reducible rfl)
        try simp only [Act.put, List.setIfInBounds_toArray, List.set_cons_zero, List.set_cons_succ]
        refine wpAnyH_done (by kernel_rfl) ?_ _
        have I : MidR w wF w1.heap.size w2.heap.size w3.heap.size w4.heap.size (w5.heap.size) P Pp G (.slice Af nf cf) (.slice Ao no co) (.slice Al nl cl) VN EW KN (dX14 VW EW κ i u) (.slice X1 y1 z1) (.slice X2 y2 z2) (.slice X3 y3 z3) := ⟨hM, rwF, by omega, hL, HRO.out.below hM.below⟩
        clear hM hL rwE rwF owF zwF hSx
        generalize (w5.heap.size) = gT at I ⊢
        revert I
        revert gT
        revert wF X1 y1 z1 X2 y2 z2 X3 y3 z3
        exact key.down
    · go_simp
      go_at_call 36
      refine (KT.out _ hM.below).mono ?_
      rintro e wA ⟨rfl, bA⟩
      have hMA := hM.quiet bA
      clear hM
      have hM := hMA
      clear hMA
      go_wp2_with fail
      refine hK.out _ _ hM.g (fun hSx => ?_)
      clear hK K
      try simp only [Act.put, List.setIfInBounds_toArray, List.set_cons_zero, List.set_cons_succ]
      refine wpAnyH_ready (rs := [0, 8]) (by kernel_rfl) (by simp) ?_
      refine AllReadyH.cons (o := { dst := some 19, op := Go.Op.load 48 (Go.Operand.tmp 3), type := 48, pos := "ref.go:242", after := #[], guard := none }) rfl (fun K hK => ?_) (AllReadyH.cons (o := { dst := some 9, op := Go.Op.alloc 50, type := 0, pos := "ref.go:242", after := #[], guard := none }) rfl (fun K hK => ?_) AllReadyH.nil)
      · refine loadRow_step rfl 48 (.tmp 3) rfl w1.heap.size rfl [.slice A1 n1 c1, .slice A2 n2 c2, .slice A3 n3 c3] rp_struct (rp_size.trans (congrArg some rfl)) 48 hM.p ?_
        refine hK.out _ _ hM.g (fun hSx => ?_)
        clear hK K
        try simp only [Act.put, List.setIfInBounds_toArray, List.set_cons_zero, List.set_cons_succ]
        refine wpAnyH_ready (rs := [3, 8]) (by kernel_rfl) (by simp) ?_
        refine AllReadyH.cons (o := { dst := some 22, op := Go.Op.call { callee := Go.Callee.value (Go.Operand.func 35), args := #[Go.Operand.tmp 19, Go.Operand.tmp 21], argTypes := #[48, 50] }, type := 79, pos := "ref.go:242", after := #[{ on := 0, ground := Go.Ground.data }, { on := 2, ground := Go.Ground.data }, { on := 2, ground := Go.Ground.chain }], guard := none }) rfl (fun K hK => ?_) (AllReadyH.cons (o := { dst := some 9, op := Go.Op.alloc 50, type := 0, pos := "ref.go:242", after := #[], guard := none }) rfl (fun K hK => ?_) AllReadyH.nil)
        · go_simp
          go_at_call 35
          refine (KD.out _ hM.below).mono ?_
          rintro e wD ⟨X1, y1, z1, X2, y2, z2, X3, y3, z3, rfl, lD, bD⟩
          have hMD := hM.quiet bD
          have hs3 := hM.lt.2.2.2.2
          have hL := lD.weak (Q := fun y => (Pp y ∨ w.heap.size ≤ y) ∧ (y < w.heap.size ∨ w4.heap.size < y)) (fun y hy p => ⟨by rcases p with p | p; exact .inl p.1; exact .inr (by have := hM.below.size; omega), by rcases p with p | p <;> omega⟩)
          clear hM lD
          have hM := hMD
          clear hMD
          go_wp2_with fail
          refine hK.out _ _ hM.g (fun hSx => ?_)
          clear hK K
          try simp only [Act.put, List.setIfInBounds_toArray, List.set_cons_zero, List.set_cons_succ]
          refine' wpAnyH_take (i := 4) (oi := { dst := some 18, op := Go.Op.move (Go.Operand.tmp 22), type := 79, pos := "ref.go:242", after := #[{ on := 3, ground := Go.Ground.data }], guard := none }) (v := _) rfl (by kernel_rfl) (by kernel_rfl) (by kernel_rfl) (fun _ _ _ h => h) (Or.inl ⟨by rfl, ?hy47⟩) (by assumption) ?rest47
          case hy47 => (intro w hSw; (try dsimp only at hSw); go_simp; try with_reducible rfl)
          try simp only [Act.put, List.setIfInBounds_toArray, List.set_cons_zero, List.set_cons_succ]
          refine' wpAnyH_take (i := 5) (oi := { dst := some 23, op := Go.Op.extract (Go.Operand.tmp 18) 0, type := 48, pos := "ref.go:242", after := #[{ on := 4, ground := Go.Ground.data }], guard := none }) (v := _) rfl (by kernel_rfl) (by kernel_rfl) (by kernel_rfl) (fun _ _ _ h => h) (Or.inl ⟨by rfl, ?hy48⟩) (by assumption) ?rest48
          case hy48 => (intro w hSw; (try dsimp only at hSw); go_simp; try with_reducible rfl)
          try simp only [Act.put, List.setIfInBounds_toArray, List.set_cons_zero, List.set_cons_succ]
          refine' wpAnyH_take (i := 6) (oi := { dst := some 24, op := Go.Op.extract (Go.Operand.tmp 18) 1, type := 50, pos := "ref.go:242", after := #[{ on := 4, ground := Go.Ground.data }, { on := 9, ground := Go.Ground.gcOnly Go.Departure.lateStores }], guard := none }) (v := _) rfl (by kernel_rfl) (by kernel_rfl) (by kernel_rfl) (fun _ _ _ h => h) (Or.inl ⟨by rfl, ?hy49⟩) (by assumption) ?rest49
          case hy49 => (intro w hSw; (try dsimp only at hSw); go_simp; try with_reducible rfl)
          try simp only [Act.put, List.setIfInBounds_toArray, List.set_cons_zero, List.set_cons_succ]
          refine' wpAnyH_take (i := 7) (oi := { dst := some 25, op := Go.Op.extract (Go.Operand.tmp 18) 2, type := 3, pos := "ref.go:242", after := #[{ on := 4, ground := Go.Ground.data }, { on := 10, ground := Go.Ground.gcOnly Go.Departure.lateStores }], guard := none }) (v := _) rfl (by kernel_rfl) (by kernel_rfl) (by kernel_rfl) (fun _ _ _ h => h) (Or.inl ⟨by rfl, ?hy50⟩) (by assumption) ?rest50
          case hy50 => (intro w hSw; (try dsimp only at hSw); go_simp; try with_reducible rfl)
          try simp only [Act.put, List.setIfInBounds_toArray, List.set_cons_zero, List.set_cons_succ]
          refine wpAnyH_ready (rs := [8]) (by kernel_rfl) (by simp) ?_
          refine AllReadyH.cons (o := { dst := some 9, op := Go.Op.alloc 50, type := 0, pos := "ref.go:242", after := #[], guard := none }) rfl (fun K hK => ?_) AllReadyH.nil
          refine alloc_step rfl 50 rfl _ rt_zero ?_
          intro wB rB bB zB
          have hMB := hM.quiet bB
          have ht4 : w4.heap.size < wD.heap.size := hM.lt.2.2.2.2
          have hLB := hL.below bB
          have hyT := hL.weak (Q := fun y => (Pp y ∨ w.heap.size ≤ y) ∧ (y < w.heap.size ∨ w4.heap.size < y) ∧ y ≠ wD.heap.size) (fun y hy p => ⟨p.1, p.2, by omega⟩)
          have hLT := hyT.below bB
          clear hL hLB hyT
          have hL := hLT
          clear hLT
          clear hM
          have hM := hMB
          clear hMB
          have hT : Row wB wD.heap.size 50 (tcC 0 0 0) := rB
          clear rB bB
          refine hK.out _ _ hM.g (fun hSx => ?_)
          clear hK K
          try simp only [Act.put, List.setIfInBounds_toArray, List.set_cons_zero, List.set_cons_succ]
          refine wpAnyH_ready (rs := [9]) (by kernel_rfl) (by simp) ?_
          refine AllReadyH.cons (o := { dst := none, op := Go.Op.store 48 (Go.Operand.tmp 3) (Go.Operand.tmp 23), type := 0, pos := "ref.go:242", after := #[{ on := 5, ground := Go.Ground.data }, { on := 3, ground := Go.Ground.chain }, { on := 0, ground := Go.Ground.phase }, { on := 1, ground := Go.Ground.phase }, { on := 2, ground := Go.Ground.phase }, { on := 3, ground := Go.Ground.phase }, { on := 4, ground := Go.Ground.phase }, { on := 5, ground := Go.Ground.phase }, { on := 6, ground := Go.Ground.textOnly Go.Departure.lateStores }, { on := 7, ground := Go.Ground.textOnly Go.Departure.lateStores }, { on := 8, ground := Go.Ground.phase }], guard := none }) rfl (fun K hK => ?_) AllReadyH.nil
          refine storeRow_step rfl 48 (.tmp 3) (.tmp 23) rfl w1.heap.size rfl ([.slice X1 y1 z1, .slice X2 y2 z2, .slice X3 y3 z3]) rfl (rp_size.trans (congrArg some rfl)) 48 [.slice A1 n1 c1, .slice A2 n2 c2, .slice A3 n3 c3] hM.p rfl rp_one ?_
          intro wE rwE owE zwE
          have hME := hM.plain owE rwE
          have hTE := hT.only owE (fun e => by have := hM.lt; omega)
          have hLE := hL.only owE (fun y e p => by have := hM.lt; omega)
          clear hM hT hL
          have hM := hME
          have hT := hTE
          have hL := hLE
          clear hME hTE hLE
          refine hK.out _ _ hM.g (fun hSx => ?_)
          clear hK K
          try simp only [Act.put]
          refine wpAnyH_ready (rs := [10]) (by kernel_rfl) (by simp) ?_
          refine AllReadyH.cons (o := { dst := none, op := Go.Op.store 50 (Go.Operand.tmp 9) (Go.Operand.tmp 24), type := 0, pos := "ref.go:242", after := #[{ on := 8, ground := Go.Ground.data }, { on := 6, ground := Go.Ground.data }, { on := 9, ground := Go.Ground.chain }, { on := 0, ground := Go.Ground.phase }, { on := 1, ground := Go.Ground.phase }, { on := 2, ground := Go.Ground.phase }, { on := 3, ground := Go.Ground.phase }, { on := 4, ground := Go.Ground.phase }, { on := 5, ground := Go.Ground.phase }, { on := 6, ground := Go.Ground.phase }, { on := 7, ground := Go.Ground.textOnly Go.Departure.lateStores }, { on := 8, ground := Go.Ground.phase }, { on := 9, ground := Go.Ground.phase }], guard := none }) rfl (fun K hK => ?_) AllReadyH.nil
          refine storeRow_step rfl 50 (.tmp 9) (.tmp 24) rfl wD.heap.size rfl (tcC (dX14 VW EW κ i u).1 (dX14 VW EW κ i u).2.1 (dX14 VW EW κ i u).2.2) rfl (rt_size.trans (congrArg some rfl)) 50 (tcC 0 0 0) hT rfl (rt_one _ _ _) ?_
          intro wF rwF owF zwF
          have hMF := hM.other owF (by omega)
          have hLF := hL.only owF (fun y e p => by omega)
          clear hM hT hL
          have hM := hMF
          have hL := hLF
          clear hMF hLF
          refine hK.out _ _ hM.g (fun hSx => ?_)
          clear hK K
          try simp only [Act.put]
          refine' wpAnyH_take (i := 11) (oi := { dst := some 10, op := Go.Op.assign (Go.Operand.tmp 25), type := 3, pos := "ref.go:242", after := #[{ on := 7, ground := Go.Ground.data }, { on := 10, ground := Go.Ground.chain }, { on := 0, ground := Go.Ground.phase }, { on := 1, ground := Go.Ground.phase }, { on := 2, ground := Go.Ground.phase }, { on := 3, ground := Go.Ground.phase }, { on := 4, ground := Go.Ground.phase }, { on := 5, ground := Go.Ground.phase }, { on := 6, ground := Go.Ground.phase }, { on := 7, ground := Go.Ground.phase }, { on := 8, ground := Go.Ground.phase }, { on := 9, ground := Go.Ground.phase }, { on := 10, ground := Go.Ground.phase }], guard := none }) (v := _) rfl (by kernel_rfl) (by kernel_rfl) (by kernel_rfl) (fun _ _ _ h => h) (Or.inl ⟨by rfl, ?hy54⟩) (by assumption) ?rest54
          case hy54 => (intro w hSw; (try dsimp only at hSw); go_simp; try with_reducible rfl)
          try simp only [Act.put, List.setIfInBounds_toArray, List.set_cons_zero, List.set_cons_succ]
          refine wpAnyH_done (by kernel_rfl) ?_ _
          have I : MidR w wF w1.heap.size w2.heap.size w3.heap.size w4.heap.size (wD.heap.size) P Pp G (.slice Af nf cf) (.slice Ao no co) (.slice Al nl cl) VN EW KN (dX14 VW EW κ i u) (.slice X1 y1 z1) (.slice X2 y2 z2) (.slice X3 y3 z3) := ⟨hM, rwF, by omega, hL, HRO.out.below hM.below⟩
          clear hM hL rwE rwF owF zwF hSx
          generalize (wD.heap.size) = gT at I ⊢
          revert I
          revert gT
          revert wF X1 y1 z1 X2 y2 z2 X3 y3 z3
          exact key.down
        · refine alloc_step rfl 50 rfl _ rt_zero ?_
          intro wB rB bB zB
          have hMB := hM.quiet bB
          have ht4 : w4.heap.size < wA.heap.size := hM.lt.2.2.2.2
          clear hM
          have hM := hMB
          clear hMB
          have hT : Row wB wA.heap.size 50 (tcC 0 0 0) := rB
          clear rB bB
          refine hK.out _ _ hM.g (fun hSx => ?_)
          clear hK K
          try simp only [Act.put, List.setIfInBounds_toArray, List.set_cons_zero, List.set_cons_succ]
          refine wpAnyH_ready (rs := [3]) (by kernel_rfl) (by simp) ?_
          refine AllReadyH.cons (o := { dst := some 22, op := Go.Op.call { callee := Go.Callee.value (Go.Operand.func 35), args := #[Go.Operand.tmp 19, Go.Operand.tmp 21], argTypes := #[48, 50] }, type := 79, pos := "ref.go:242", after := #[{ on := 0, ground := Go.Ground.data }, { on := 2, ground := Go.Ground.data }, { on := 2, ground := Go.Ground.chain }], guard := none }) rfl (fun K hK => ?_) AllReadyH.nil
          go_simp
          go_at_call 35
          refine (KD.out _ hM.below).mono ?_
          rintro e wD ⟨X1, y1, z1, X2, y2, z2, X3, y3, z3, rfl, lD, bD⟩
          have hMD := hM.quiet bD
          have hs3 := hM.lt.2.2.2.2
          have hTD := hT.below bD
          have hst := hT.lt
          have hL := lD.weak (Q := fun y => (Pp y ∨ w.heap.size ≤ y) ∧ (y < w.heap.size ∨ w4.heap.size < y) ∧ y ≠ wA.heap.size) (fun y hy p => ⟨by rcases p with p | p; exact .inl p.1; exact .inr (by have := hM.below.size; omega), by rcases p with p | p <;> omega, by rcases p with p | p; have := hM.below.size; have := hM.lt; omega; omega⟩)
          clear hM lD
          have hM := hMD
          clear hMD
          clear hT
          have hT := hTD
          clear hTD
          go_wp2_with fail
          refine hK.out _ _ hM.g (fun hSx => ?_)
          clear hK K
          try simp only [Act.put, List.setIfInBounds_toArray, List.set_cons_zero, List.set_cons_succ]
          refine' wpAnyH_take (i := 4) (oi := { dst := some 18, op := Go.Op.move (Go.Operand.tmp 22), type := 79, pos := "ref.go:242", after := #[{ on := 3, ground := Go.Ground.data }], guard := none }) (v := _) rfl (by kernel_rfl) (by kernel_rfl) (by kernel_rfl) (fun _ _ _ h => h) (Or.inl ⟨by rfl, ?hy56⟩) (by assumption) ?rest56
          case hy56 => (intro w hSw; (try dsimp only at hSw); go_simp; try with_reducible rfl)
          try simp only [Act.put, List.setIfInBounds_toArray, List.set_cons_zero, List.set_cons_succ]
          refine' wpAnyH_take (i := 5) (oi := { dst := some 23, op := Go.Op.extract (Go.Operand.tmp 18) 0, type := 48, pos := "ref.go:242", after := #[{ on := 4, ground := Go.Ground.data }], guard := none }) (v := _) rfl (by kernel_rfl) (by kernel_rfl) (by kernel_rfl) (fun _ _ _ h => h) (Or.inl ⟨by rfl, ?hy57⟩) (by assumption) ?rest57
          case hy57 => (intro w hSw; (try dsimp only at hSw); go_simp; try with_reducible rfl)
          try simp only [Act.put, List.setIfInBounds_toArray, List.set_cons_zero, List.set_cons_succ]
          refine' wpAnyH_take (i := 6) (oi := { dst := some 24, op := Go.Op.extract (Go.Operand.tmp 18) 1, type := 50, pos := "ref.go:242", after := #[{ on := 4, ground := Go.Ground.data }, { on := 9, ground := Go.Ground.gcOnly Go.Departure.lateStores }], guard := none }) (v := _) rfl (by kernel_rfl) (by kernel_rfl) (by kernel_rfl) (fun _ _ _ h => h) (Or.inl ⟨by rfl, ?hy58⟩) (by assumption) ?rest58
          case hy58 => (intro w hSw; (try dsimp only at hSw); go_simp; try with_reducible rfl)
          try simp only [Act.put, List.setIfInBounds_toArray, List.set_cons_zero, List.set_cons_succ]
          refine' wpAnyH_take (i := 7) (oi := { dst := some 25, op := Go.Op.extract (Go.Operand.tmp 18) 2, type := 3, pos := "ref.go:242", after := #[{ on := 4, ground := Go.Ground.data }, { on := 10, ground := Go.Ground.gcOnly Go.Departure.lateStores }], guard := none }) (v := _) rfl (by kernel_rfl) (by kernel_rfl) (by kernel_rfl) (fun _ _ _ h => h) (Or.inl ⟨by rfl, ?hy59⟩) (by assumption) ?rest59
          case hy59 => (intro w hSw; (try dsimp only at hSw); go_simp; try with_reducible rfl)
          try simp only [Act.put, List.setIfInBounds_toArray, List.set_cons_zero, List.set_cons_succ]
          refine wpAnyH_ready (rs := [9]) (by kernel_rfl) (by simp) ?_
          refine AllReadyH.cons (o := { dst := none, op := Go.Op.store 48 (Go.Operand.tmp 3) (Go.Operand.tmp 23), type := 0, pos := "ref.go:242", after := #[{ on := 5, ground := Go.Ground.data }, { on := 3, ground := Go.Ground.chain }, { on := 0, ground := Go.Ground.phase }, { on := 1, ground := Go.Ground.phase }, { on := 2, ground := Go.Ground.phase }, { on := 3, ground := Go.Ground.phase }, { on := 4, ground := Go.Ground.phase }, { on := 5, ground := Go.Ground.phase }, { on := 6, ground := Go.Ground.textOnly Go.Departure.lateStores }, { on := 7, ground := Go.Ground.textOnly Go.Departure.lateStores }, { on := 8, ground := Go.Ground.phase }], guard := none }) rfl (fun K hK => ?_) AllReadyH.nil
          refine storeRow_step rfl 48 (.tmp 3) (.tmp 23) rfl w1.heap.size rfl ([.slice X1 y1 z1, .slice X2 y2 z2, .slice X3 y3 z3]) rfl (rp_size.trans (congrArg some rfl)) 48 [.slice A1 n1 c1, .slice A2 n2 c2, .slice A3 n3 c3] hM.p rfl rp_one ?_
          intro wE rwE owE zwE
          have hME := hM.plain owE rwE
          have hTE := hT.only owE (fun e => by have := hM.lt; omega)
          have hLE := hL.only owE (fun y e p => by have := hM.lt; omega)
          clear hM hT hL
          have hM := hME
          have hT := hTE
          have hL := hLE
          clear hME hTE hLE
          refine hK.out _ _ hM.g (fun hSx => ?_)
          clear hK K
          try simp only [Act.put]
          refine wpAnyH_ready (rs := [10]) (by kernel_rfl) (by simp) ?_
          refine AllReadyH.cons (o := { dst := none, op := Go.Op.store 50 (Go.Operand.tmp 9) (Go.Operand.tmp 24), type := 0, pos := "ref.go:242", after := #[{ on := 8, ground := Go.Ground.data }, { on := 6, ground := Go.Ground.data }, { on := 9, ground := Go.Ground.chain }, { on := 0, ground := Go.Ground.phase }, { on := 1, ground := Go.Ground.phase }, { on := 2, ground := Go.Ground.phase }, { on := 3, ground := Go.Ground.phase }, { on := 4, ground := Go.Ground.phase }, { on := 5, ground := Go.Ground.phase }, { on := 6, ground := Go.Ground.phase }, { on := 7, ground := Go.Ground.textOnly Go.Departure.lateStores }, { on := 8, ground := Go.Ground.phase }, { on := 9, ground := Go.Ground.phase }], guard := none }) rfl (fun K hK => ?_) AllReadyH.nil
          refine storeRow_step rfl 50 (.tmp 9) (.tmp 24) rfl wA.heap.size rfl (tcC (dX14 VW EW κ i u).1 (dX14 VW EW κ i u).2.1 (dX14 VW EW κ i u).2.2) rfl (rt_size.trans (congrArg some rfl)) 50 (tcC 0 0 0) hT rfl (rt_one _ _ _) ?_
          intro wF rwF owF zwF
          have hMF := hM.other owF (by omega)
          have hLF := hL.only owF (fun y e p => by omega)
          clear hM hT hL
          have hM := hMF
          have hL := hLF
          clear hMF hLF
          refine hK.out _ _ hM.g (fun hSx => ?_)
          clear hK K
          try simp only [Act.put]
          refine' wpAnyH_take (i := 11) (oi := { dst := some 10, op := Go.Op.assign (Go.Operand.tmp 25), type := 3, pos := "ref.go:242", after := #[{ on := 7, ground := Go.Ground.data }, { on := 10, ground := Go.Ground.chain }, { on := 0, ground := Go.Ground.phase }, { on := 1, ground := Go.Ground.phase }, { on := 2, ground := Go.Ground.phase }, { on := 3, ground := Go.Ground.phase }, { on := 4, ground := Go.Ground.phase }, { on := 5, ground := Go.Ground.phase }, { on := 6, ground := Go.Ground.phase }, { on := 7, ground := Go.Ground.phase }, { on := 8, ground := Go.Ground.phase }, { on := 9, ground := Go.Ground.phase }, { on := 10, ground := Go.Ground.phase }], guard := none }) (v := _) rfl (by kernel_rfl) (by kernel_rfl) (by kernel_rfl) (fun _ _ _ h => h) (Or.inl ⟨by rfl, ?hy62⟩) (by assumption) ?rest62
          case hy62 => (intro w hSw; (try dsimp only at hSw); go_simp; try with_reducible rfl)
          try simp only [Act.put, List.setIfInBounds_toArray, List.set_cons_zero, List.set_cons_succ]
          refine wpAnyH_done (by kernel_rfl) ?_ _
          have I : MidR w wF w1.heap.size w2.heap.size w3.heap.size w4.heap.size (wA.heap.size) P Pp G (.slice Af nf cf) (.slice Ao no co) (.slice Al nl cl) VN EW KN (dX14 VW EW κ i u) (.slice X1 y1 z1) (.slice X2 y2 z2) (.slice X3 y3 z3) := ⟨hM, rwF, by omega, hL, HRO.out.below hM.below⟩
          clear hM hL rwE rwF owF zwF hSx
          generalize (wA.heap.size) = gT at I ⊢
          revert I
          revert gT
          revert wF X1 y1 z1 X2 y2 z2 X3 y3 z3
          exact key.down
      · refine alloc_step rfl 50 rfl _ rt_zero ?_
        intro wB rB bB zB
        have hMB := hM.quiet bB
        have ht4 : w4.heap.size < wA.heap.size := hM.lt.2.2.2.2
        clear hM
        have hM := hMB
        clear hMB
        have hT : Row wB wA.heap.size 50 (tcC 0 0 0) := rB
        clear rB bB
        refine hK.out _ _ hM.g (fun hSx => ?_)
        clear hK K
        try simp only [Act.put, List.setIfInBounds_toArray, List.set_cons_zero, List.set_cons_succ]
        refine wpAnyH_ready (rs := [0]) (by kernel_rfl) (by simp) ?_
        refine AllReadyH.cons (o := { dst := some 19, op := Go.Op.load 48 (Go.Operand.tmp 3), type := 48, pos := "ref.go:242", after := #[], guard := none }) rfl (fun K hK => ?_) AllReadyH.nil
        refine loadRow_step rfl 48 (.tmp 3) rfl w1.heap.size rfl [.slice A1 n1 c1, .slice A2 n2 c2, .slice A3 n3 c3] rp_struct (rp_size.trans (congrArg some rfl)) 48 hM.p ?_
        refine hK.out _ _ hM.g (fun hSx => ?_)
        clear hK K
        try simp only [Act.put, List.setIfInBounds_toArray, List.set_cons_zero, List.set_cons_succ]
        refine wpAnyH_ready (rs := [3]) (by kernel_rfl) (by simp) ?_
        refine AllReadyH.cons (o := { dst := some 22, op := Go.Op.call { callee := Go.Callee.value (Go.Operand.func 35), args := #[Go.Operand.tmp 19, Go.Operand.tmp 21], argTypes := #[48, 50] }, type := 79, pos := "ref.go:242", after := #[{ on := 0, ground := Go.Ground.data }, { on := 2, ground := Go.Ground.data }, { on := 2, ground := Go.Ground.chain }], guard := none }) rfl (fun K hK => ?_) AllReadyH.nil
        go_simp
        go_at_call 35
        refine (KD.out _ hM.below).mono ?_
        rintro e wD ⟨X1, y1, z1, X2, y2, z2, X3, y3, z3, rfl, lD, bD⟩
        have hMD := hM.quiet bD
        have hs3 := hM.lt.2.2.2.2
        have hTD := hT.below bD
        have hst := hT.lt
        have hL := lD.weak (Q := fun y => (Pp y ∨ w.heap.size ≤ y) ∧ (y < w.heap.size ∨ w4.heap.size < y) ∧ y ≠ wA.heap.size) (fun y hy p => ⟨by rcases p with p | p; exact .inl p.1; exact .inr (by have := hM.below.size; omega), by rcases p with p | p <;> omega, by rcases p with p | p; have := hM.below.size; have := hM.lt; omega; omega⟩)
        clear hM lD
        have hM := hMD
        clear hMD
        clear hT
        have hT := hTD
        clear hTD
        go_wp2_with fail
        refine hK.out _ _ hM.g (fun hSx => ?_)
        clear hK K
        try simp only [Act.put, List.setIfInBounds_toArray, List.set_cons_zero, List.set_cons_succ]
        refine' wpAnyH_take (i := 4) (oi := { dst := some 18, op := Go.Op.move (Go.Operand.tmp 22), type := 79, pos := "ref.go:242", after := #[{ on := 3, ground := Go.Ground.data }], guard := none }) (v := _) rfl (by kernel_rfl) (by kernel_rfl) (by kernel_rfl) (fun _ _ _ h => h) (Or.inl ⟨by rfl, ?hy65⟩) (by assumption) ?rest65
        case hy65 => (intro w hSw; (try dsimp only at hSw); go_simp; try with_reducible rfl)
        try simp only [Act.put, List.setIfInBounds_toArray, List.set_cons_zero, List.set_cons_succ]
        refine' wpAnyH_take (i := 5) (oi := { dst := some 23, op := Go.Op.extract (Go.Operand.tmp 18) 0, type := 48, pos := "ref.go:242", after := #[{ on := 4, ground := Go.Ground.data }], guard := none }) (v := _) rfl (by kernel_rfl) (by kernel_rfl) (by kernel_rfl) (fun _ _ _ h => h) (Or.inl ⟨by rfl, ?hy66⟩) (by assumption) ?rest66
        case hy66 => (intro w hSw; (try dsimp only at hSw); go_simp; try with_reducible rfl)
        try simp only [Act.put, List.setIfInBounds_toArray, List.set_cons_zero, List.set_cons_succ]
        refine' wpAnyH_take (i := 6) (oi := { dst := some 24, op := Go.Op.extract (Go.Operand.tmp 18) 1, type := 50, pos := "ref.go:242", after := #[{ on := 4, ground := Go.Ground.data }, { on := 9, ground := Go.Ground.gcOnly Go.Departure.lateStores }], guard := none }) (v := _) rfl (by kernel_rfl) (by kernel_rfl) (by kernel_rfl) (fun _ _ _ h => h) (Or.inl ⟨by rfl, ?hy67⟩) (by assumption) ?rest67
        case hy67 => (intro w hSw; (try dsimp only at hSw); go_simp; try with_reducible rfl)
        try simp only [Act.put, List.setIfInBounds_toArray, List.set_cons_zero, List.set_cons_succ]
        refine' wpAnyH_take (i := 7) (oi := { dst := some 25, op := Go.Op.extract (Go.Operand.tmp 18) 2, type := 3, pos := "ref.go:242", after := #[{ on := 4, ground := Go.Ground.data }, { on := 10, ground := Go.Ground.gcOnly Go.Departure.lateStores }], guard := none }) (v := _) rfl (by kernel_rfl) (by kernel_rfl) (by kernel_rfl) (fun _ _ _ h => h) (Or.inl ⟨by rfl, ?hy68⟩) (by assumption) ?rest68
        case hy68 => (intro w hSw; (try dsimp only at hSw); go_simp; try with_reducible rfl)
        try simp only [Act.put, List.setIfInBounds_toArray, List.set_cons_zero, List.set_cons_succ]
        refine wpAnyH_ready (rs := [9]) (by kernel_rfl) (by simp) ?_
        refine AllReadyH.cons (o := { dst := none, op := Go.Op.store 48 (Go.Operand.tmp 3) (Go.Operand.tmp 23), type := 0, pos := "ref.go:242", after := #[{ on := 5, ground := Go.Ground.data }, { on := 3, ground := Go.Ground.chain }, { on := 0, ground := Go.Ground.phase }, { on := 1, ground := Go.Ground.phase }, { on := 2, ground := Go.Ground.phase }, { on := 3, ground := Go.Ground.phase }, { on := 4, ground := Go.Ground.phase }, { on := 5, ground := Go.Ground.phase }, { on := 6, ground := Go.Ground.textOnly Go.Departure.lateStores }, { on := 7, ground := Go.Ground.textOnly Go.Departure.lateStores }, { on := 8, ground := Go.Ground.phase }], guard := none }) rfl (fun K hK => ?_) AllReadyH.nil
        refine storeRow_step rfl 48 (.tmp 3) (.tmp 23) rfl w1.heap.size rfl ([.slice X1 y1 z1, .slice X2 y2 z2, .slice X3 y3 z3]) rfl (rp_size.trans (congrArg some rfl)) 48 [.slice A1 n1 c1, .slice A2 n2 c2, .slice A3 n3 c3] hM.p rfl rp_one ?_
        intro wE rwE owE zwE
        have hME := hM.plain owE rwE
        have hTE := hT.only owE (fun e => by have := hM.lt; omega)
        have hLE := hL.only owE (fun y e p => by have := hM.lt; omega)
        clear hM hT hL
        have hM := hME
        have hT := hTE
        have hL := hLE
        clear hME hTE hLE
        refine hK.out _ _ hM.g (fun hSx => ?_)
        clear hK K
        try simp only [Act.put]
        refine wpAnyH_ready (rs := [10]) (by kernel_rfl) (by simp) ?_
        refine AllReadyH.cons (o := { dst := none, op := Go.Op.store 50 (Go.Operand.tmp 9) (Go.Operand.tmp 24), type := 0, pos := "ref.go:242", after := #[{ on := 8, ground := Go.Ground.data }, { on := 6, ground := Go.Ground.data }, { on := 9, ground := Go.Ground.chain }, { on := 0, ground := Go.Ground.phase }, { on := 1, ground := Go.Ground.phase }, { on := 2, ground := Go.Ground.phase }, { on := 3, ground := Go.Ground.phase }, { on := 4, ground := Go.Ground.phase }, { on := 5, ground := Go.Ground.phase }, { on := 6, ground := Go.Ground.phase }, { on := 7, ground := Go.Ground.textOnly Go.Departure.lateStores }, { on := 8, ground := Go.Ground.phase }, { on := 9, ground := Go.Ground.phase }], guard := none }) rfl (fun K hK => ?_) AllReadyH.nil
        refine storeRow_step rfl 50 (.tmp 9) (.tmp 24) rfl wA.heap.size rfl (tcC (dX14 VW EW κ i u).1 (dX14 VW EW κ i u).2.1 (dX14 VW EW κ i u).2.2) rfl (rt_size.trans (congrArg some rfl)) 50 (tcC 0 0 0) hT rfl (rt_one _ _ _) ?_
        intro wF rwF owF zwF
        have hMF := hM.other owF (by omega)
        have hLF := hL.only owF (fun y e p => by omega)
        clear hM hT hL
        have hM := hMF
        have hL := hLF
        clear hMF hLF
        refine hK.out _ _ hM.g (fun hSx => ?_)
        clear hK K
        try simp only [Act.put]
        refine' wpAnyH_take (i := 11) (oi := { dst := some 10, op := Go.Op.assign (Go.Operand.tmp 25), type := 3, pos := "ref.go:242", after := #[{ on := 7, ground := Go.Ground.data }, { on := 10, ground := Go.Ground.chain }, { on := 0, ground := Go.Ground.phase }, { on := 1, ground := Go.Ground.phase }, { on := 2, ground := Go.Ground.phase }, { on := 3, ground := Go.Ground.phase }, { on := 4, ground := Go.Ground.phase }, { on := 5, ground := Go.Ground.phase }, { on := 6, ground := Go.Ground.phase }, { on := 7, ground := Go.Ground.phase }, { on := 8, ground := Go.Ground.phase }, { on := 9, ground := Go.Ground.phase }, { on := 10, ground := Go.Ground.phase }], guard := none }) (v := _) rfl (by kernel_rfl) (by kernel_rfl) (by kernel_rfl) (fun _ _ _ h => h) (Or.inl ⟨by rfl, ?hy71⟩) (by assumption) ?rest71
        case hy71 => (intro w hSw; (try dsimp only at hSw); go_simp; try with_reducible rfl)
        try simp only [Act.put, List.setIfInBounds_toArray, List.set_cons_zero, List.set_cons_succ]
        refine wpAnyH_done (by kernel_rfl) ?_ _
        have I : MidR w wF w1.heap.size w2.heap.size w3.heap.size w4.heap.size (wA.heap.size) P Pp G (.slice Af nf cf) (.slice Ao no co) (.slice Al nl cl) VN EW KN (dX14 VW EW κ i u) (.slice X1 y1 z1) (.slice X2 y2 z2) (.slice X3 y3 z3) := ⟨hM, rwF, by omega, hL, HRO.out.below hM.below⟩
        clear hM hL rwE rwF owF zwF hSx
        generalize (wA.heap.size) = gT at I ⊢
        revert I
        revert gT
        revert wF X1 y1 z1 X2 y2 z2 X3 y3 z3
        exact key.down
    · refine alloc_step rfl 50 rfl _ rt_zero ?_
      intro wB rB bB zB
      have hMB := hM.quiet bB
      have ht4 : w4.heap.size < w5.heap.size := hM.lt.2.2.2.2
      clear hM
      have hM := hMB
      clear hMB
      have hT : Row wB w5.heap.size 50 (tcC 0 0 0) := rB
      clear rB bB
      refine hK.out _ _ hM.g (fun hSx => ?_)
      clear hK K
      try simp only [Act.put, List.setIfInBounds_toArray, List.set_cons_zero, List.set_cons_succ]
      refine wpAnyH_ready (rs := [0, 2]) (by kernel_rfl) (by simp) ?_
      refine AllReadyH.cons (o := { dst := some 19, op := Go.Op.load 48 (Go.Operand.tmp 3), type := 48, pos := "ref.go:242", after := #[], guard := none }) rfl (fun K hK => ?_) (AllReadyH.cons (o := { dst := some 21, op := Go.Op.call { callee := Go.Callee.value (Go.Operand.func 36), args := #[Go.Operand.tmp 20], argTypes := #[35] }, type := 50, pos := "ref.go:242", after := #[{ on := 1, ground := Go.Ground.data }], guard := none }) rfl (fun K hK => ?_) AllReadyH.nil)
      · refine loadRow_step rfl 48 (.tmp 3) rfl w1.heap.size rfl [.slice A1 n1 c1, .slice A2 n2 c2, .slice A3 n3 c3] rp_struct (rp_size.trans (congrArg some rfl)) 48 hM.p ?_
        refine hK.out _ _ hM.g (fun hSx => ?_)
        clear hK K
        try simp only [Act.put, List.setIfInBounds_toArray, List.set_cons_zero, List.set_cons_succ]
        refine wpAnyH_ready (rs := [2]) (by kernel_rfl) (by simp) ?_
        refine AllReadyH.cons (o := { dst := some 21, op := Go.Op.call { callee := Go.Callee.value (Go.Operand.func 36), args := #[Go.Operand.tmp 20], argTypes := #[35] }, type := 50, pos := "ref.go:242", after := #[{ on := 1, ground := Go.Ground.data }], guard := none }) rfl (fun K hK => ?_) AllReadyH.nil
        go_simp
        go_at_call 36
        refine (KT.out _ hM.below).mono ?_
        rintro e wA ⟨rfl, bA⟩
        have hMA := hM.quiet bA
        have hTA := hT.below bA
        clear hM
        have hM := hMA
        clear hMA
        clear hT
        have hT := hTA
        clear hTA
        go_wp2_with fail
        refine hK.out _ _ hM.g (fun hSx => ?_)
        clear hK K
        try simp only [Act.put, List.setIfInBounds_toArray, List.set_cons_zero, List.set_cons_succ]
        refine wpAnyH_ready (rs := [3]) (by kernel_rfl) (by simp) ?_
        refine AllReadyH.cons (o := { dst := some 22, op := Go.Op.call { callee := Go.Callee.value (Go.Operand.func 35), args := #[Go.Operand.tmp 19, Go.Operand.tmp 21], argTypes := #[48, 50] }, type := 79, pos := "ref.go:242", after := #[{ on := 0, ground := Go.Ground.data }, { on := 2, ground := Go.Ground.data }, { on := 2, ground := Go.Ground.chain }], guard := none }) rfl (fun K hK => ?_) AllReadyH.nil
        go_simp
        go_at_call 35
        refine (KD.out _ hM.below).mono ?_
        rintro e wD ⟨X1, y1, z1, X2, y2, z2, X3, y3, z3, rfl, lD, bD⟩
        have hMD := hM.quiet bD
        have hs3 := hM.lt.2.2.2.2
        have hTD := hT.below bD
        have hst := hT.lt
        have hL := lD.weak (Q := fun y => (Pp y ∨ w.heap.size ≤ y) ∧ (y < w.heap.size ∨ w4.heap.size < y) ∧ y ≠ w5.heap.size) (fun y hy p => ⟨by rcases p with p | p; exact .inl p.1; exact .inr (by have := hM.below.size; omega), by rcases p with p | p <;> omega, by rcases p with p | p; have := hM.below.size; have := hM.lt; omega; omega⟩)
        clear hM lD
        have hM := hMD
        clear hMD
        clear hT
        have hT := hTD
        clear hTD
        go_wp2_with fail
        refine hK.out _ _ hM.g (fun hSx => ?_)
        clear hK K
        try simp only [Act.put, List.setIfInBounds_toArray, List.set_cons_zero, List.set_cons_succ]
        refine' wpAnyH_take (i := 4) (oi := { dst := some 18, op := Go.Op.move (Go.Operand.tmp 22), type := 79, pos := "ref.go:242", after := #[{ on := 3, ground := Go.Ground.data }], guard := none }) (v := _) rfl (by kernel_rfl) (by kernel_rfl) (by kernel_rfl) (fun _ _ _ h => h) (Or.inl ⟨by rfl, ?hy76⟩) (by assumption) ?rest76
        case hy76 => (intro w hSw; (try dsimp only at hSw); go_simp; try with_reducible rfl)
        try simp only [Act.put, List.setIfInBounds_toArray, List.set_cons_zero, List.set_cons_succ]
        refine' wpAnyH_take (i := 5) (oi := { dst := some 23, op := Go.Op.extract (Go.Operand.tmp 18) 0, type := 48, pos := "ref.go:242", after := #[{ on := 4, ground := Go.Ground.data }], guard := none }) (v := _) rfl (by kernel_rfl) (by kernel_rfl) (by kernel_rfl) (fun _ _ _ h => h) (Or.inl ⟨by rfl, ?hy77⟩) (by assumption) ?rest77
        case hy77 => (intro w hSw; (try dsimp only at hSw); go_simp; try with_reducible rfl)
        try simp only [Act.put, List.setIfInBounds_toArray, List.set_cons_zero, List.set_cons_succ]
        refine' wpAnyH_take (i := 6) (oi := { dst := some 24, op := Go.Op.extract (Go.Operand.tmp 18) 1, type := 50, pos := "ref.go:242", after := #[{ on := 4, ground := Go.Ground.data }, { on := 9, ground := Go.Ground.gcOnly Go.Departure.lateStores }], guard := none }) (v := _) rfl (by kernel_rfl) (by kernel_rfl) (by kernel_rfl) (fun _ _ _ h => h) (Or.inl ⟨by rfl, ?hy78⟩) (by assumption) ?rest78
        case hy78 => (intro w hSw; (try dsimp only at hSw); go_simp; try with_reducible rfl)
        try simp only [Act.put, List.setIfInBounds_toArray, List.set_cons_zero, List.set_cons_succ]
        refine' wpAnyH_take (i := 7) (oi := { dst := some 25, op := Go.Op.extract (Go.Operand.tmp 18) 2, type := 3, pos := "ref.go:242", after := #[{ on := 4, ground := Go.Ground.data }, { on := 10, ground := Go.Ground.gcOnly Go.Departure.lateStores }], guard := none }) (v := _) rfl (by kernel_rfl) (by kernel_rfl) (by kernel_rfl) (fun _ _ _ h => h) (Or.inl ⟨by rfl, ?hy79⟩) (by assumption) ?rest79
        case hy79 => (intro w hSw; (try dsimp only at hSw); go_simp; try with_reducible rfl)
        try simp only [Act.put, List.setIfInBounds_toArray, List.set_cons_zero, List.set_cons_succ]
        refine wpAnyH_ready (rs := [9]) (by kernel_rfl) (by simp) ?_
        refine AllReadyH.cons (o := { dst := none, op := Go.Op.store 48 (Go.Operand.tmp 3) (Go.Operand.tmp 23), type := 0, pos := "ref.go:242", after := #[{ on := 5, ground := Go.Ground.data }, { on := 3, ground := Go.Ground.chain }, { on := 0, ground := Go.Ground.phase }, { on := 1, ground := Go.Ground.phase }, { on := 2, ground := Go.Ground.phase }, { on := 3, ground := Go.Ground.phase }, { on := 4, ground := Go.Ground.phase }, { on := 5, ground := Go.Ground.phase }, { on := 6, ground := Go.Ground.textOnly Go.Departure.lateStores }, { on := 7, ground := Go.Ground.textOnly Go.Departure.lateStores }, { on := 8, ground := Go.Ground.phase }], guard := none }) rfl (fun K hK => ?_) AllReadyH.nil
        refine storeRow_step rfl 48 (.tmp 3) (.tmp 23) rfl w1.heap.size rfl ([.slice X1 y1 z1, .slice X2 y2 z2, .slice X3 y3 z3]) rfl (rp_size.trans (congrArg some rfl)) 48 [.slice A1 n1 c1, .slice A2 n2 c2, .slice A3 n3 c3] hM.p rfl rp_one ?_
        intro wE rwE owE zwE
        have hME := hM.plain owE rwE
        have hTE := hT.only owE (fun e => by have := hM.lt; omega)
        have hLE := hL.only owE (fun y e p => by have := hM.lt; omega)
        clear hM hT hL
        have hM := hME
        have hT := hTE
        have hL := hLE
        clear hME hTE hLE
        refine hK.out _ _ hM.g (fun hSx => ?_)
        clear hK K
        try simp only [Act.put]
        refine wpAnyH_ready (rs := [10]) (by kernel_rfl) (by simp) ?_
        refine AllReadyH.cons (o := { dst := none, op := Go.Op.store 50 (Go.Operand.tmp 9) (Go.Operand.tmp 24), type := 0, pos := "ref.go:242", after := #[{ on := 8, ground := Go.Ground.data }, { on := 6, ground := Go.Ground.data }, { on := 9, ground := Go.Ground.chain }, { on := 0, ground := Go.Ground.phase }, { on := 1, ground := Go.Ground.phase }, { on := 2, ground := Go.Ground.phase }, { on := 3, ground := Go.Ground.phase }, { on := 4, ground := Go.Ground.phase }, { on := 5, ground := Go.Ground.phase }, { on := 6, ground := Go.Ground.phase }, { on := 7, ground := Go.Ground.textOnly Go.Departure.lateStores }, { on := 8, ground := Go.Ground.phase }, { on := 9, ground := Go.Ground.phase }], guard := none }) rfl (fun K hK => ?_) AllReadyH.nil
        refine storeRow_step rfl 50 (.tmp 9) (.tmp 24) rfl w5.heap.size rfl (tcC (dX14 VW EW κ i u).1 (dX14 VW EW κ i u).2.1 (dX14 VW EW κ i u).2.2) rfl (rt_size.trans (congrArg some rfl)) 50 (tcC 0 0 0) hT rfl (rt_one _ _ _) ?_
        intro wF rwF owF zwF
        have hMF := hM.other owF (by omega)
        have hLF := hL.only owF (fun y e p => by omega)
        clear hM hT hL
        have hM := hMF
        have hL := hLF
        clear hMF hLF
        refine hK.out _ _ hM.g (fun hSx => ?_)
        clear hK K
        try simp only [Act.put]
        refine' wpAnyH_take (i := 11) (oi := { dst := some 10, op := Go.Op.assign (Go.Operand.tmp 25), type := 3, pos := "ref.go:242", after := #[{ on := 7, ground := Go.Ground.data }, { on := 10, ground := Go.Ground.chain }, { on := 0, ground := Go.Ground.phase }, { on := 1, ground := Go.Ground.phase }, { on := 2, ground := Go.Ground.phase }, { on := 3, ground := Go.Ground.phase }, { on := 4, ground := Go.Ground.phase }, { on := 5, ground := Go.Ground.phase }, { on := 6, ground := Go.Ground.phase }, { on := 7, ground := Go.Ground.phase }, { on := 8, ground := Go.Ground.phase }, { on := 9, ground := Go.Ground.phase }, { on := 10, ground := Go.Ground.phase }], guard := none }) (v := _) rfl (by kernel_rfl) (by kernel_rfl) (by kernel_rfl) (fun _ _ _ h => h) (Or.inl ⟨by rfl, ?hy82⟩) (by assumption) ?rest82
        case hy82 => (intro w hSw; (try dsimp only at hSw); go_simp; try with_reducible rfl)
        try simp only [Act.put, List.setIfInBounds_toArray, List.set_cons_zero, List.set_cons_succ]
        refine wpAnyH_done (by kernel_rfl) ?_ _
        have I : MidR w wF w1.heap.size w2.heap.size w3.heap.size w4.heap.size (w5.heap.size) P Pp G (.slice Af nf cf) (.slice Ao no co) (.slice Al nl cl) VN EW KN (dX14 VW EW κ i u) (.slice X1 y1 z1) (.slice X2 y2 z2) (.slice X3 y3 z3) := ⟨hM, rwF, by omega, hL, HRO.out.below hM.below⟩
        clear hM hL rwE rwF owF zwF hSx
        generalize (w5.heap.size) = gT at I ⊢
        revert I
        revert gT
        revert wF X1 y1 z1 X2 y2 z2 X3 y3 z3
        exact key.down
      · go_simp
        go_at_call 36
        refine (KT.out _ hM.below).mono ?_
        rintro e wA ⟨rfl, bA⟩
        have hMA := hM.quiet bA
        have hTA := hT.below bA
        clear hM
        have hM := hMA
        clear hMA
        clear hT
        have hT := hTA
        clear hTA
        go_wp2_with fail
        refine hK.out _ _ hM.g (fun hSx => ?_)
        clear hK K
        try simp only [Act.put, List.setIfInBounds_toArray, List.set_cons_zero, List.set_cons_succ]
        refine wpAnyH_ready (rs := [0]) (by kernel_rfl) (by simp) ?_
        refine AllReadyH.cons (o := { dst := some 19, op := Go.Op.load 48 (Go.Operand.tmp 3), type := 48, pos := "ref.go:242", after := #[], guard := none }) rfl (fun K hK => ?_) AllReadyH.nil
        refine loadRow_step rfl 48 (.tmp 3) rfl w1.heap.size rfl [.slice A1 n1 c1, .slice A2 n2 c2, .slice A3 n3 c3] rp_struct (rp_size.trans (congrArg some rfl)) 48 hM.p ?_
        refine hK.out _ _ hM.g (fun hSx => ?_)
        clear hK K
        try simp only [Act.put, List.setIfInBounds_toArray, List.set_cons_zero, List.set_cons_succ]
        refine wpAnyH_ready (rs := [3]) (by kernel_rfl) (by simp) ?_
        refine AllReadyH.cons (o := { dst := some 22, op := Go.Op.call { callee := Go.Callee.value (Go.Operand.func 35), args := #[Go.Operand.tmp 19, Go.Operand.tmp 21], argTypes := #[48, 50] }, type := 79, pos := "ref.go:242", after := #[{ on := 0, ground := Go.Ground.data }, { on := 2, ground := Go.Ground.data }, { on := 2, ground := Go.Ground.chain }], guard := none }) rfl (fun K hK => ?_) AllReadyH.nil
        go_simp
        go_at_call 35
        refine (KD.out _ hM.below).mono ?_
        rintro e wD ⟨X1, y1, z1, X2, y2, z2, X3, y3, z3, rfl, lD, bD⟩
        have hMD := hM.quiet bD
        have hs3 := hM.lt.2.2.2.2
        have hTD := hT.below bD
        have hst := hT.lt
        have hL := lD.weak (Q := fun y => (Pp y ∨ w.heap.size ≤ y) ∧ (y < w.heap.size ∨ w4.heap.size < y) ∧ y ≠ w5.heap.size) (fun y hy p => ⟨by rcases p with p | p; exact .inl p.1; exact .inr (by have := hM.below.size; omega), by rcases p with p | p <;> omega, by rcases p with p | p; have := hM.below.size; have := hM.lt; omega; omega⟩)
        clear hM lD
        have hM := hMD
        clear hMD
        clear hT
        have hT := hTD
        clear hTD
        go_wp2_with fail
        refine hK.out _ _ hM.g (fun hSx => ?_)
        clear hK K
        try simp only [Act.put, List.setIfInBounds_toArray, List.set_cons_zero, List.set_cons_succ]
        refine' wpAnyH_take (i := 4) (oi := { dst := some 18, op := Go.Op.move (Go.Operand.tmp 22), type := 79, pos := "ref.go:242", after := #[{ on := 3, ground := Go.Ground.data }], guard := none }) (v := _) rfl (by kernel_rfl) (by kernel_rfl) (by kernel_rfl) (fun _ _ _ h => h) (Or.inl ⟨by rfl, ?hy85⟩) (by assumption) ?rest85
        case hy85 => (intro w hSw; (try dsimp only at hSw); go_simp; try with_reducible rfl)
        try simp only [Act.put, List.setIfInBounds_toArray, List.set_cons_zero, List.set_cons_succ]
        refine' wpAnyH_take (i := 5) (oi := { dst := some 23, op := Go.Op.extract (Go.Operand.tmp 18) 0, type := 48, pos := "ref.go:242", after := #[{ on := 4, ground := Go.Ground.data }], guard := none }) (v := _) rfl (by kernel_rfl) (by kernel_rfl) (by kernel_rfl) (fun _ _ _ h => h) (Or.inl ⟨by rfl, ?hy86⟩) (by assumption) ?rest86
        case hy86 => (intro w hSw; (try dsimp only at hSw); go_simp; try with_reducible rfl)
        try simp only [Act.put, List.setIfInBounds_toArray, List.set_cons_zero, List.set_cons_succ]
        refine' wpAnyH_take (i := 6) (oi := { dst := some 24, op := Go.Op.extract (Go.Operand.tmp 18) 1, type := 50, pos := "ref.go:242", after := #[{ on := 4, ground := Go.Ground.data }, { on := 9, ground := Go.Ground.gcOnly Go.Departure.lateStores }], guard := none }) (v := _) rfl (by kernel_rfl) (by kernel_rfl) (by kernel_rfl) (fun _ _ _ h => h) (Or.inl ⟨by rfl, ?hy87⟩) (by assumption) ?rest87
        case hy87 => (intro w hSw; (try dsimp only at hSw); go_simp; try with_reducible rfl)
        try simp only [Act.put, List.setIfInBounds_toArray, List.set_cons_zero, List.set_cons_succ]
        refine' wpAnyH_take (i := 7) (oi := { dst := some 25, op := Go.Op.extract (Go.Operand.tmp 18) 2, type := 3, pos := "ref.go:242", after := #[{ on := 4, ground := Go.Ground.data }, { on := 10, ground := Go.Ground.gcOnly Go.Departure.lateStores }], guard := none }) (v := _) rfl (by kernel_rfl) (by kernel_rfl) (by kernel_rfl) (fun _ _ _ h => h) (Or.inl ⟨by rfl, ?hy88⟩) (by assumption) ?rest88
        case hy88 => (intro w hSw; (try dsimp only at hSw); go_simp; try with_reducible rfl)
        try simp only [Act.put, List.setIfInBounds_toArray, List.set_cons_zero, List.set_cons_succ]
        refine wpAnyH_ready (rs := [9]) (by kernel_rfl) (by simp) ?_
        refine AllReadyH.cons (o := { dst := none, op := Go.Op.store 48 (Go.Operand.tmp 3) (Go.Operand.tmp 23), type := 0, pos := "ref.go:242", after := #[{ on := 5, ground := Go.Ground.data }, { on := 3, ground := Go.Ground.chain }, { on := 0, ground := Go.Ground.phase }, { on := 1, ground := Go.Ground.phase }, { on := 2, ground := Go.Ground.phase }, { on := 3, ground := Go.Ground.phase }, { on := 4, ground := Go.Ground.phase }, { on := 5, ground := Go.Ground.phase }, { on := 6, ground := Go.Ground.textOnly Go.Departure.lateStores }, { on := 7, ground := Go.Ground.textOnly Go.Departure.lateStores }, { on := 8, ground := Go.Ground.phase }], guard := none }) rfl (fun K hK => ?_) AllReadyH.nil
        refine storeRow_step rfl 48 (.tmp 3) (.tmp 23) rfl w1.heap.size rfl ([.slice X1 y1 z1, .slice X2 y2 z2, .slice X3 y3 z3]) rfl (rp_size.trans (congrArg some rfl)) 48 [.slice A1 n1 c1, .slice A2 n2 c2, .slice A3 n3 c3] hM.p rfl rp_one ?_
        intro wE rwE owE zwE
        have hME := hM.plain owE rwE
        have hTE := hT.only owE (fun e => by have := hM.lt; omega)
        have hLE := hL.only owE (fun y e p => by have := hM.lt; omega)
        clear hM hT hL
        have hM := hME
        have hT := hTE
        have hL := hLE
        clear hME hTE hLE
        refine hK.out _ _ hM.g (fun hSx => ?_)
        clear hK K
        try simp only [Act.put]
        refine wpAnyH_ready (rs := [10]) (by kernel_rfl) (by simp) ?_
        refine AllReadyH.cons (o := { dst := none, op := Go.Op.store 50 (Go.Operand.tmp 9) (Go.Operand.tmp 24), type := 0, pos := "ref.go:242", after := #[{ on := 8, ground := Go.Ground.data }, { on := 6, ground := Go.Ground.data }, { on := 9, ground := Go.Ground.chain }, { on := 0, ground := Go.Ground.phase }, { on := 1, ground := Go.Ground.phase }, { on := 2, ground := Go.Ground.phase }, { on := 3, ground := Go.Ground.phase }, { on := 4, ground := Go.Ground.phase }, { on := 5, ground := Go.Ground.phase }, { on := 6, ground := Go.Ground.phase }, { on := 7, ground := Go.Ground.textOnly Go.Departure.lateStores }, { on := 8, ground := Go.Ground.phase }, { on := 9, ground := Go.Ground.phase }], guard := none }) rfl (fun K hK => ?_) AllReadyH.nil
        refine storeRow_step rfl 50 (.tmp 9) (.tmp 24) rfl w5.heap.size rfl (tcC (dX14 VW EW κ i u).1 (dX14 VW EW κ i u).2.1 (dX14 VW EW κ i u).2.2) rfl (rt_size.trans (congrArg some rfl)) 50 (tcC 0 0 0) hT rfl (rt_one _ _ _) ?_
        intro wF rwF owF zwF
        have hMF := hM.other owF (by omega)
        have hLF := hL.only owF (fun y e p => by omega)
        clear hM hT hL
        have hM := hMF
        have hL := hLF
        clear hMF hLF
        refine hK.out _ _ hM.g (fun hSx => ?_)
        clear hK K
        try simp only [Act.put]
        refine' wpAnyH_take (i := 11) (oi := { dst := some 10, op := Go.Op.assign (Go.Operand.tmp 25), type := 3, pos := "ref.go:242", after := #[{ on := 7, ground := Go.Ground.data }, { on := 10, ground := Go.Ground.chain }, { on := 0, ground := Go.Ground.phase }, { on := 1, ground := Go.Ground.phase }, { on := 2, ground := Go.Ground.phase }, { on := 3, ground := Go.Ground.phase }, { on := 4, ground := Go.Ground.phase }, { on := 5, ground := Go.Ground.phase }, { on := 6, ground := Go.Ground.phase }, { on := 7, ground := Go.Ground.phase }, { on := 8, ground := Go.Ground.phase }, { on := 9, ground := Go.Ground.phase }, { on := 10, ground := Go.Ground.phase }], guard := none }) (v := _) rfl (by kernel_rfl) (by kernel_rfl) (by kernel_rfl) (fun _ _ _ h => h) (Or.inl ⟨by rfl, ?hy91⟩) (by assumption) ?rest91
        case hy91 => (intro w hSw; (try dsimp only at hSw); go_simp; try with_reducible rfl)
        try simp only [Act.put, List.setIfInBounds_toArray, List.set_cons_zero, List.set_cons_succ]
        refine wpAnyH_done (by kernel_rfl) ?_ _
        have I : MidR w wF w1.heap.size w2.heap.size w3.heap.size w4.heap.size (w5.heap.size) P Pp G (.slice Af nf cf) (.slice Ao no co) (.slice Al nl cl) VN EW KN (dX14 VW EW κ i u) (.slice X1 y1 z1) (.slice X2 y2 z2) (.slice X3 y3 z3) := ⟨hM, rwF, by omega, hL, HRO.out.below hM.below⟩
        clear hM hL rwE rwF owF zwF hSx
        generalize (w5.heap.size) = gT at I ⊢
        revert I
        revert gT
        revert wF X1 y1 z1 X2 y2 z2 X3 y3 z3
        exact key.down
  intro X1 y1 z1 X2 y2 z2 X3 y3 z3 w9 gT I0
  clear hM0
  have I := Lib.hid I0
  clear I0
  have KB := Lib.hid (KA.out _ I.out.gl)
  go_wp2_with (first
    | (with_reducible refine loadRow_walk rfl 35 (.tmp 2) rfl w.heap.size rfl (rvC G (.slice Af nf cf) (.slice Ao no co) (.slice Al nl cl)) rv_struct (HSZ.out _ _ _ _) 35 I.out.st.g ?_)
    | (go_at_call 37; refine KB.out.mono ?_; rintro e w10 ⟨Af2, nf2, cf2, Ao2, no2, co2, Al2, nl2, cl2, rfl, l10, b10⟩; have L10 := Lib.hid l10; have M10 := Lib.hid (I.out.st.quiet b10); have T10 := Lib.hid (I.out.tr.below b10); have P10 := Lib.hid (I.out.pl.below b10); have S10 := Lib.hid b10.size; clear l10 b10)
    | ((with_reducible refine storeRow_walk rfl 35 (.tmp 2) (.tmp 30) rfl w.heap.size rfl (rvC (raN G H.R n).1 (.slice Af2 nf2 cf2) (.slice Ao2 no2 co2) (.slice Al2 nl2 cl2)) rfl (HSZ.out _ _ _ _) 35 _ M10.out.g rfl (rv_one _) ?_); intro w11 r11 o11 z11; have M11 := Lib.hid (M10.out.giver o11 r11); have T11 := Lib.hid (T10.out.only o11 (fun e => by have := M10.out.lt; have := I.out.lt; omega)); have P11 := Lib.hid (P10.out.only o11 (fun y e p => by have := M10.out.lt; omega)); have L11 := Lib.hid (L10.out.only o11 (fun y e p => by have := I.out.st.lt; rcases p with p | p <;> omega)); have HGT := Lib.hid I.out.lt; have HS11 := Lib.hid I.out.st.lt; clear r11 o11 z11))
  have hM : StR w w11.drew w1.heap.size w2.heap.size w3.heap.size w4.heap.size (raN G H.R n).1 (.slice Af2 nf2 cf2) (.slice Ao2 no2 co2) (.slice Al2 nl2 cl2) [.slice X1 y1 z1, .slice X2 y2 z2, .slice X3 y3 z3] := M11.out.quiet (below_q w11 1)
  have hT : Row w11.drew gT 50 (tcC (dX14 VW EW κ i u).1 (dX14 VW EW κ i u).2.1 (dX14 VW EW κ i u).2.2) := T11.out
  have hgt := HGT.out
  refine wp_region_held_drew (S := fun W => Row W w.heap.size 35 (rvC (raN G H.R n).1 (.slice Af2 nf2 cf2) (.slice Ao2 no2 co2) (.slice Al2 nl2 cl2)) ∧ Row W w1.heap.size 48 [.slice X1 y1 z1, .slice X2 y2 z2, .slice X3 y3 z3] ∧ Row W gT 50 (tcC (dX14 VW EW κ i u).1 (dX14 VW EW κ i u).2.1 (dX14 VW EW κ i u).2.2)) (by kernel_rfl) ⟨hM.g, hM.p, hT⟩ (fun hHeld => ?_)
  refine wpAnyH_take (i := 0) (oi := { dst := some 34, op := Go.Op.load 35 (Go.Operand.tmp 2), type := 35, pos := "ref.go:245", after := #[], guard := none }) (v := .agg (rvC (raN G H.R n).1 (.slice Af2 nf2 cf2) (.slice Ao2 no2 co2) (.slice Al2 nl2 cl2)).toArray) rfl (by kernel_rfl) (by kernel_rfl) (by kernel_rfl) (fun _ _ _ h => h) (yieldsIf_row rfl 35 (.tmp 2) rfl w.heap.size rfl (rvC (raN G H.R n).1 (.slice Af2 nf2 cf2) (.slice Ao2 no2 co2) (.slice Al2 nl2 cl2)) rv_struct (HSZ.out _ _ _ _) 35 (fun W h => h.1)) (by assumption) ?_
  try simp only [Act.put, List.setIfInBounds_toArray, List.set_cons_zero, List.set_cons_succ]
  refine wpAnyH_take (i := 1) (oi := { dst := some 35, op := Go.Op.load 48 (Go.Operand.tmp 3), type := 48, pos := "ref.go:245", after := #[{ on := 3, ground := Go.Ground.gcOnly Go.Departure.lateStores }], guard := none }) (v := .agg ([.slice X1 y1 z1, .slice X2 y2 z2, .slice X3 y3 z3]).toArray) rfl (by kernel_rfl) (by kernel_rfl) (by kernel_rfl) (fun _ _ _ h => h) (yieldsIf_row rfl 48 (.tmp 3) rfl w1.heap.size rfl ([.slice X1 y1 z1, .slice X2 y2 z2, .slice X3 y3 z3]) rp_struct (rp_size.trans (congrArg some rfl)) 48 (fun W h => h.2.1)) (by assumption) ?_
  try simp only [Act.put, List.setIfInBounds_toArray, List.set_cons_zero, List.set_cons_succ]
  refine wpAnyH_take (i := 2) (oi := { dst := some 36, op := Go.Op.load 50 (Go.Operand.tmp 9), type := 50, pos := "ref.go:245", after := #[{ on := 4, ground := Go.Ground.gcOnly Go.Departure.lateStores }], guard := none }) (v := .agg (tcC (dX14 VW EW κ i u).1 (dX14 VW EW κ i u).2.1 (dX14 VW EW κ i u).2.2).toArray) rfl (by kernel_rfl) (by kernel_rfl) (by kernel_rfl) (fun _ _ _ h => h) (yieldsIf_row rfl 50 (.tmp 9) rfl gT rfl (tcC (dX14 VW EW κ i u).1 (dX14 VW EW κ i u).2.1 (dX14 VW EW κ i u).2.2) rt_struct (rt_size.trans (congrArg some rfl)) 50 (fun W h => h.2.2)) (by assumption) ?_
  try simp only [Act.put, List.setIfInBounds_toArray, List.set_cons_zero, List.set_cons_succ]
  refine wpAnyH_ready (rs := [3]) (by kernel_rfl) (by simp) ?_
  refine AllReadyH.cons (o := { dst := none, op := Go.Op.store 35 (Go.Operand.tmp 4) (Go.Operand.tmp 34), type := 0, pos := "ref.go:245", after := #[{ on := 0, ground := Go.Ground.data }, { on := 0, ground := Go.Ground.phase }, { on := 1, ground := Go.Ground.textOnly Go.Departure.lateStores }, { on := 2, ground := Go.Ground.textOnly Go.Departure.lateStores }], guard := none }) rfl (fun K hK => ?_) AllReadyH.nil
  refine storeRow_step rfl 35 (.tmp 4) (.tmp 34) rfl w2.heap.size rfl (rvC (raN G H.R n).1 (.slice Af2 nf2 cf2) (.slice Ao2 no2 co2) (.slice Al2 nl2 cl2)) rfl (HSZ.out _ _ _ _) 35 rvZ hM.rg rfl (rv_one _) ?_
  intro w6 rw6 ow6 zw6
  have g6 := hM.g.only ow6 (fun e => by have := hM.lt; omega)
  have p6 := hM.p.only ow6 (fun e => by have := hM.lt; omega)
  have t6 := hT.only ow6 (fun e => by have := hM.lt; omega)
  have x6 := hM.rp.only ow6 (fun e => by have := hM.lt; omega)
  have y6 := hM.rt.only ow6 (fun e => by have := hM.lt; omega)
  refine hK.out _ _ ⟨g6, p6, t6⟩ (fun hSx => ?_)
  clear hK K
  try simp only [Act.put]
  refine wpAnyH_ready (rs := [4]) (by kernel_rfl) (by simp) ?_
  refine AllReadyH.cons (o := { dst := none, op := Go.Op.store 48 (Go.Operand.tmp 5) (Go.Operand.tmp 35), type := 0, pos := "ref.go:245", after := #[{ on := 1, ground := Go.Ground.data }, { on := 3, ground := Go.Ground.chain }, { on := 0, ground := Go.Ground.phase }, { on := 1, ground := Go.Ground.phase }, { on := 2, ground := Go.Ground.textOnly Go.Departure.lateStores }, { on := 3, ground := Go.Ground.phase }], guard := none }) rfl (fun K hK => ?_) AllReadyH.nil
  refine storeRow_step rfl 48 (.tmp 5) (.tmp 35) rfl w3.heap.size rfl ([.slice X1 y1 z1, .slice X2 y2 z2, .slice X3 y3 z3]) rfl (rp_size.trans (congrArg some rfl)) 48 plZ x6 rfl rp_one ?_
  intro w7 rw7 ow7 zw7
  have g7 := g6.only ow7 (fun e => by have := hM.lt; omega)
  have p7 := p6.only ow7 (fun e => by have := hM.lt; omega)
  have t7 := t6.only ow7 (fun e => by have := hM.lt; omega)
  have x7 := rw6.only ow7 (fun e => by have := hM.lt; omega)
  have y7 := y6.only ow7 (fun e => by have := hM.lt; omega)
  refine hK.out _ _ ⟨g7, p7, t7⟩ (fun hSx => ?_)
  clear hK K
  try simp only [Act.put]
  refine wpAnyH_ready (rs := [5]) (by kernel_rfl) (by simp) ?_
  refine AllReadyH.cons (o := { dst := none, op := Go.Op.store 50 (Go.Operand.tmp 6) (Go.Operand.tmp 36), type := 0, pos := "ref.go:245", after := #[{ on := 2, ground := Go.Ground.data }, { on := 4, ground := Go.Ground.chain }, { on := 0, ground := Go.Ground.phase }, { on := 1, ground := Go.Ground.phase }, { on := 2, ground := Go.Ground.phase }, { on := 3, ground := Go.Ground.phase }, { on := 4, ground := Go.Ground.phase }], guard := none }) rfl (fun K hK => ?_) AllReadyH.nil
  refine storeRow_step rfl 50 (.tmp 6) (.tmp 36) rfl w4.heap.size rfl (tcC (dX14 VW EW κ i u).1 (dX14 VW EW κ i u).2.1 (dX14 VW EW κ i u).2.2) rfl (rt_size.trans (congrArg some rfl)) 50 (tcC 0 0 0) y7 rfl (rt_one _ _ _) ?_
  intro w8 rw8 ow8 zw8
  have g8 := g7.only ow8 (fun e => by have := hM.lt; omega)
  have p8 := p7.only ow8 (fun e => by have := hM.lt; omega)
  have t8 := t7.only ow8 (fun e => by have := hM.lt; omega)
  have x8 := x7.only ow8 (fun e => by have := hM.lt; omega)
  have z8 := rw7.only ow8 (fun e => by have := hM.lt; omega)
  refine hK.out _ _ ⟨g8, p8, t8⟩ (fun hSx => ?_)
  clear hK K
  try simp only [Act.put]
  refine' wpAnyH_take (i := 6) (oi := { dst := some 7, op := Go.Op.assign (Go.Operand.const (Go.Value.bool false)), type := 4, pos := "ref.go:245", after := #[{ on := 5, ground := Go.Ground.chain }, { on := 0, ground := Go.Ground.phase }, { on := 1, ground := Go.Ground.phase }, { on := 2, ground := Go.Ground.phase }, { on := 3, ground := Go.Ground.phase }, { on := 4, ground := Go.Ground.phase }, { on := 5, ground := Go.Ground.phase }], guard := none }) (v := _) rfl (by kernel_rfl) (by kernel_rfl) (by kernel_rfl) (fun _ _ _ h => h) (Or.inl ⟨by rfl, ?hy98⟩) (by assumption) ?rest98
  case hy98 => (intro w hSw; (try dsimp only at hSw); go_simp; try with_reducible rfl)
  try simp only [Act.put, List.setIfInBounds_toArray, List.set_cons_zero, List.set_cons_succ]
  refine' wpAnyH_take (i := 7) (oi := { dst := some 8, op := Go.Op.assign (Go.Operand.const (Go.Value.int Go.IntKind.i64 0)), type := 3, pos := "ref.go:245", after := #[{ on := 6, ground := Go.Ground.chain }, { on := 0, ground := Go.Ground.phase }, { on := 1, ground := Go.Ground.phase }, { on := 2, ground := Go.Ground.phase }, { on := 3, ground := Go.Ground.phase }, { on := 4, ground := Go.Ground.phase }, { on := 5, ground := Go.Ground.phase }, { on := 6, ground := Go.Ground.phase }], guard := none }) (v := _) rfl (by kernel_rfl) (by kernel_rfl) (by kernel_rfl) (fun _ _ _ h => h) (Or.inl ⟨by rfl, ?hy99⟩) (by assumption) ?rest99
  case hy99 => (intro w hSw; (try dsimp only at hSw); go_simp; try with_reducible rfl)
  try simp only [Act.put, List.setIfInBounds_toArray, List.set_cons_zero, List.set_cons_succ]
  refine wpAnyH_done (by kernel_rfl) ?_ _
  have OO : Only (fun y => y = w2.heap.size ∨ y = w3.heap.size ∨ y = w4.heap.size) w11.drew w8 := ((ow6.mono (fun y _ e => .inl e)).trans (ow7.mono (fun y _ e => .inr (.inl e)))).trans (ow8.mono (fun y _ e => .inr (.inr e)))
  have BE : Below w.heap.size w w8 := Only.below hM.below OO hM.below.size (fun y hy e => by have := hM.lt; omega)
  have LE := (show RvL w11.drew _ _ _ _ _ from L11.out.below (below_q w11 1)).only OO (fun y e p => by have := hM.lt; have := HS11.out; rcases p with p | p <;> omega)
  have PE := (show RPl14 w11.drew _ _ _ _ _ _ _ from P11.out.below (below_q w11 1)).only OO (fun y e p => by have := hM.lt; omega)
  go_wp2
  exact bodyPost_ret (rstep_results Tryd.results14 rfl rfl rfl rfl rfl x8 z8 rw8) rfl ⟨_, _, _, _, _, _, _, _, _, _, _, _, _, _, _, _, _, _, rfl, LE.weak (fun y _ p => by rcases p with p | p; exact .inl p.1; exact .inr (by have := HS11.out; omega)), PE.weak (fun y _ p => p.1), BE⟩
set_option maxRecDepth 100000 in
set_option maxHeartbeats 8000000 in
theorem rstep_done (P Pp : Nat → Prop) (H : Gv) (G : Rv) (VW EW KW : List Int) (n : Int) (w : World) (r : RvL w P G (.slice Af nf cf) (.slice Ao no co) (.slice Al nl cl)) (rp : RPl14 w Pp VW EW KW (.slice A1 n1 c1) (.slice A2 n2 c2) (.slice A3 n3 c3)) (h : Rel16 H G) (ok : Ok16 H) (h0 : H.st ≠ 0) (hl : VW.length ≤ 65536) (hk : KW.length ≤ 65536) (hV : ∀ x ∈ VW, 0 ≤ x ∧ x ≤ 65535) (hn : (dN14 VW EW (tch16 H).1 (tch16 H).2.1) = n) (na : Int) (ha : (raN G H.R n).2 = na) (hna : 0 ≤ na) :
    Calls Tryd.prog 14 #[rvV G (.slice Af nf cf) (.slice Ao no co) (.slice Al nl cl), .agg #[.slice A1 n1 c1, .slice A2 n2 c2, .slice A3 n3 c3]] w (RStp P Pp (raN G H.R n).1 (dV14 VW (tch16 H).1 (tch16 H).2.1 (tch16 H).2.2) EW (dK14 KW (tch16 H).1 (tch16 H).2.1) (dX14 VW EW (tch16 H).1 (tch16 H).2.1 (tch16 H).2.2) true na w) := by
  have HSZ := Lib.hid (fun (H : Rv) (a b c : Value) => (rv_size.trans (congrArg some (rv_len H a b c).symm)))
  have HONE := Lib.hid (rv_one (Af := Af) (nf := nf) (cf := cf) (Ao := Ao) (no := no) (co := co) (Al := Al) (nl := nl) (cl := cl))
  have g0 : (G.at_ == 0) = false := by rw [h.at_]; simp; exact h0
  have KT := Lib.hid (fun W (hb : Below w.heap.size w W) => rtch_rel P H G W (r.below hb) h ok h0)
  have KD := Lib.hid (fun W (hb : Below w.heap.size w W) => rdo14_any (P := fun y => (Pp y ∧ y < w.heap.size) ∨ W.heap.size ≤ y) (tch16 H).1 (tch16 H).2.1 (tch16 H).2.2 W hl hk hV (fun y hy => .inr hy) ((rp.weak (Q := fun y => (Pp y ∧ y < w.heap.size) ∨ W.heap.size ≤ y) (fun y hy p => .inl ⟨p, hy⟩)).below hb))
  have KA := Lib.hid (fun W (hr : RvL W (fun y => P y ∧ y < w.heap.size) G (.slice Af nf cf) (.slice Ao no co) (.slice Al nl cl)) => raft_rel (fun y => P y ∧ y < w.heap.size) H G n W hr h ok h0)
  rw [hn] at KD
  obtain ⟨κ, hκ⟩ : ∃ κ, (tch16 H).1 = κ := ⟨_, rfl⟩
  obtain ⟨i, hi⟩ : ∃ i, (tch16 H).2.1 = i := ⟨_, rfl⟩
  obtain ⟨u, hu⟩ : ∃ u, (tch16 H).2.2 = u := ⟨_, rfl⟩
  rw [hκ, hi, hu] at KT KD ⊢
  obtain ⟨VN, hVN⟩ : ∃ VN, dV14 VW κ i u = VN := ⟨_, rfl⟩
  obtain ⟨KN, hKN⟩ : ∃ KN, dK14 KW κ i = KN := ⟨_, rfl⟩
  rw [hVN, hKN]
  rw [hVN, hKN] at KD
  clear hVN hKN
  have HRO := Lib.hid r.old
  obtain ⟨a0, ha0⟩ : ∃ a0, G.at_ = a0 := ⟨_, rfl⟩
  have H1 := Lib.hid ha0
  rw [ha0] at g0
  have gna : decide (na < 0) = false := decide_eq_false (by omega)
  rw [ha] at KA
  clear ha hna
  clear r rp h ok h0 hl hk hV hn hκ hi hu ha0
  unfold RDo14 touchV at KD
  unfold touchV at KT
  unfold RVA rvV at KA
  unfold rvV at KT ⊢
  go_enter Tryd.func14, Tryd.ntmps14
  go_wp2_with (first
    | ((with_reducible refine box_walk rfl 35 (.tmp 0) rfl (rvC G (.slice Af nf cf) (.slice Ao no co) (.slice Al nl cl)) rfl ?_); intro w1 r1 b1 z1; have R1 := Lib.hid r1; have B1 := Lib.hid b1; have Z1 := Lib.hid z1; clear r1 b1 z1)
    | ((with_reducible refine box_walk rfl 48 (.tmp 1) rfl [.slice A1 n1 c1, .slice A2 n2 c2, .slice A3 n3 c3] rfl ?_); intro w2 r2 b2 z2; have R2 := Lib.hid r2; have B2 := Lib.hid b2; have Z2 := Lib.hid z2; clear r2 b2 z2)
    | ((with_reducible refine alloc_walk (o := ⟨some 4, _, _, _, _, _⟩) rfl 35 rfl _ rv_zero ?_); go_must (intro w3 r3 b3 z3; have R3 := Lib.hid r3; have B3 := Lib.hid b3; have Z3 := Lib.hid z3; clear r3 b3 z3))
    | ((with_reducible refine alloc_walk (o := ⟨some 5, _, _, _, _, _⟩) rfl 48 rfl _ rp_zero ?_); go_must (intro w4 r4 b4 z4; have R4 := Lib.hid r4; have B4 := Lib.hid b4; have Z4 := Lib.hid z4; clear r4 b4 z4))
    | ((with_reducible refine alloc_walk (o := ⟨some 6, _, _, _, _, _⟩) rfl 50 rfl _ rt_zero ?_); go_must (intro w5 r5 b5 z5; have M5 : Hid (StR w w5 w1.heap.size w2.heap.size w3.heap.size w4.heap.size G (.slice Af nf cf) (.slice Ao no co) (.slice Al nl cl) [.slice A1 n1 c1, .slice A2 n2 c2, .slice A3 n3 c3]) := Lib.hid (by
        have e1 := Z1.out
        have e2 := Z2.out
        have e3 := Z3.out
        have e4 := Z4.out
        exact ⟨(((R1.out.below B2.out).below B3.out).below B4.out).below b5, ((R2.out.below B3.out).below B4.out).below b5, (R3.out.below B4.out).below b5, R4.out.below b5, r5, by omega, below_on (below_on (below_on (below_on B1.out B2.out) B3.out) B4.out) b5⟩); have c11 := M5.out.g.cell 11; simp only [rvC, List.getElem?_cons_zero, List.getElem?_cons_succ] at c11; rw [H1.out] at c11; clear r5 b5 z5)))
  have hM0 : StR w w5.drew w1.heap.size w2.heap.size w3.heap.size w4.heap.size G (.slice Af nf cf) (.slice Ao no co) (.slice Al nl cl) [.slice A1 n1 c1, .slice A2 n2 c2, .slice A3 n3 c3] := M5.out.quiet (below_q w5 1)
  refine' (fun (key : PLift (_ : Prop)) => ?main) ⟨?loop⟩
  case main =>
    have hM := hM0
    refine wp_region_held_drew (S := fun W => Row W w.heap.size 35 (rvC G (.slice Af nf cf) (.slice Ao no co) (.slice Al nl cl))) (by kernel_rfl) hM.g (fun hHeld => ?_)
    refine wpAnyH_take (i := 1) (oi := { dst := some 20, op := Go.Op.load 35 (Go.Operand.tmp 2), type := 35, pos := "ref.go:242", after := #[], guard := none }) (v := .agg (rvC G (.slice Af nf cf) (.slice Ao no co) (.slice Al nl cl)).toArray) rfl (by kernel_rfl) (by kernel_rfl) (by kernel_rfl) (fun _ _ _ h => h) (yieldsIf_row rfl 35 (.tmp 2) rfl w.heap.size rfl (rvC G (.slice Af nf cf) (.slice Ao no co) (.slice Al nl cl)) rv_struct (HSZ.out _ _ _ _) 35 (fun W h => h)) (by assumption) ?_
    try simp only [Act.put, List.setIfInBounds_toArray, List.set_cons_zero, List.set_cons_succ]
    refine wpAnyH_ready (rs := [0, 2, 8]) (by kernel_rfl) (by simp) ?_
    refine AllReadyH.cons (o := { dst := some 19, op := Go.Op.load 48 (Go.Operand.tmp 3), type := 48, pos := "ref.go:242", after := #[], guard := none }) rfl (fun K hK => ?_) (AllReadyH.cons (o := { dst := some 21, op := Go.Op.call { callee := Go.Callee.value (Go.Operand.func 36), args := #[Go.Operand.tmp 20], argTypes := #[35] }, type := 50, pos := "ref.go:242", after := #[{ on := 1, ground := Go.Ground.data }], guard := none }) rfl (fun K hK => ?_) (AllReadyH.cons (o := { dst := some 9, op := Go.Op.alloc 50, type := 0, pos := "ref.go:242", after := #[], guard := none }) rfl (fun K hK => ?_) AllReadyH.nil))
    · refine loadRow_step rfl 48 (.tmp 3) rfl w1.heap.size rfl [.slice A1 n1 c1, .slice A2 n2 c2, .slice A3 n3 c3] rp_struct (rp_size.trans (congrArg some rfl)) 48 hM.p ?_
      refine hK.out _ _ hM.g (fun hSx => ?_)
      clear hK K
      try simp only [Act.put, List.setIfInBounds_toArray, List.set_cons_zero, List.set_cons_succ]
      refine wpAnyH_ready (rs := [2, 8]) (by kernel_rfl) (by simp) ?_
      refine AllReadyH.cons (o := { dst := some 21, op := Go.Op.call { callee := Go.Callee.value (Go.Operand.func 36), args := #[Go.Operand.tmp 20], argTypes := #[35] }, type := 50, pos := "ref.go:242", after := #[{ on := 1, ground := Go.Ground.data }], guard := none }) rfl (fun K hK => ?_) (AllReadyH.cons (o := { dst := some 9, op := Go.Op.alloc 50, type := 0, pos := "ref.go:242", after := #[], guard := none }) rfl (fun K hK => ?_) AllReadyH.nil)
      · go_simp
        go_at_call 36
        refine (KT.out _ hM.below).mono ?_
        rintro e wA ⟨rfl, bA⟩
        have hMA := hM.quiet bA
        clear hM
        have hM := hMA
        clear hMA
        go_wp2_with fail
        refine hK.out _ _ hM.g (fun hSx => ?_)
        clear hK K
        try simp only [Act.put, List.setIfInBounds_toArray, List.set_cons_zero, List.set_cons_succ]
        refine wpAnyH_ready (rs := [3, 8]) (by kernel_rfl) (by simp) ?_
        refine AllReadyH.cons (o := { dst := some 22, op := Go.Op.call { callee := Go.Callee.value (Go.Operand.func 35), args := #[Go.Operand.tmp 19, Go.Operand.tmp 21], argTypes := #[48, 50] }, type := 79, pos := "ref.go:242", after := #[{ on := 0, ground := Go.Ground.data }, { on := 2, ground := Go.Ground.data }, { on := 2, ground := Go.Ground.chain }], guard := none }) rfl (fun K hK => ?_) (AllReadyH.cons (o := { dst := some 9, op := Go.Op.alloc 50, type := 0, pos := "ref.go:242", after := #[], guard := none }) rfl (fun K hK => ?_) AllReadyH.nil)
        · go_simp
          go_at_call 35
          refine (KD.out _ hM.below).mono ?_
          rintro e wD ⟨X1, y1, z1, X2, y2, z2, X3, y3, z3, rfl, lD, bD⟩
          have hMD := hM.quiet bD
          have hs3 := hM.lt.2.2.2.2
          have hL := lD.weak (Q := fun y => (Pp y ∨ w.heap.size ≤ y) ∧ (y < w.heap.size ∨ w4.heap.size < y)) (fun y hy p => ⟨by rcases p with p | p; exact .inl p.1; exact .inr (by have := hM.below.size; omega), by rcases p with p | p <;> omega⟩)
          clear hM lD
          have hM := hMD
          clear hMD
          go_wp2_with fail
          refine hK.out _ _ hM.g (fun hSx => ?_)
          clear hK K
          try simp only [Act.put, List.setIfInBounds_toArray, List.set_cons_zero, List.set_cons_succ]
          refine' wpAnyH_take (i := 4) (oi := { dst := some 18, op := Go.Op.move (Go.Operand.tmp 22), type := 79, pos := "ref.go:242", after := #[{ on := 3, ground := Go.Ground.data }], guard := none }) (v := _) rfl (by kernel_rfl) (by kernel_rfl) (by kernel_rfl) (fun _ _ _ h => h) (Or.inl ⟨by rfl, ?hy18⟩) (by assumption) ?rest18
          case hy18 => (intro w hSw; (try dsimp only at hSw); go_simp; try with_reducible rfl)
          try simp only [Act.put, List.setIfInBounds_toArray, List.set_cons_zero, List.set_cons_succ]
          refine' wpAnyH_take (i := 5) (oi := { dst := some 23, op := Go.Op.extract (Go.Operand.tmp 18) 0, type := 48, pos := "ref.go:242", after := #[{ on := 4, ground := Go.Ground.data }], guard := none }) (v := _) rfl (by kernel_rfl) (by kernel_rfl) (by kernel_rfl) (fun _ _ _ h => h) (Or.inl ⟨by rfl, ?hy19⟩) (by assumption) ?rest19
          case hy19 => (intro w hSw; (try dsimp only at hSw); go_simp; try with_reducible rfl)
          try simp only [Act.put, List.setIfInBounds_toArray, List.set_cons_zero, List.set_cons_succ]
          refine' wpAnyH_take (i := 6) (oi := { dst := some 24, op := Go.Op.extract (Go.Operand.tmp 18) 1, type := 50, pos := "ref.go:242", after := #[{ on := 4, ground := Go.Ground.data }, { on := 9, ground := Go.Ground.gcOnly Go.Departure.lateStores }], guard := none }) (v := _) rfl (by kernel_rfl) (by kernel_rfl) (by kernel_rfl) (fun _ _ _ h => h) (Or.inl ⟨by rfl, ?hy20⟩) (by assumption) ?rest20
          case hy20 => (intro w hSw; (try dsimp only at hSw); go_simp; try with_reducible rfl)
          try simp only [Act.put, List.setIfInBounds_toArray, List.set_cons_zero, List.set_cons_succ]
          refine' wpAnyH_take (i := 7) (oi := { dst := some 25, op := Go.Op.extract (Go.Operand.tmp 18) 2, type := 3, pos := "ref.go:242", after := #[{ on := 4, ground := Go.Ground.data }, { on := 10, ground := Go.Ground.gcOnly Go.Departure.lateStores }], guard := none }) (v := _) rfl (by kernel_rfl) (by kernel_rfl) (by kernel_rfl) (fun _ _ _ h => h) (Or.inl ⟨by rfl, ?hy21⟩) (by assumption) ?rest21
          case hy21 => (intro w hSw; (try dsimp only at hSw); go_simp; try with_reducible rfl)
          try simp only [Act.put, List.setIfInBounds_toArray, List.set_cons_zero, List.set_cons_succ]
          refine wpAnyH_ready (rs := [8]) (by kernel_rfl) (by simp) ?_
          refine AllReadyH.cons (o := { dst := some 9, op := Go.Op.alloc 50, type := 0, pos := "ref.go:242", after := #[], guard := none }) rfl (fun K hK => ?_) AllReadyH.nil
          refine alloc_step rfl 50 rfl _ rt_zero ?_
          intro wB rB bB zB
          have hMB := hM.quiet bB
          have ht4 : w4.heap.size < wD.heap.size := hM.lt.2.2.2.2
          have hLB := hL.below bB
          have hyT := hL.weak (Q := fun y => (Pp y ∨ w.heap.size ≤ y) ∧ (y < w.heap.size ∨ w4.heap.size < y) ∧ y ≠ wD.heap.size) (fun y hy p => ⟨p.1, p.2, by omega⟩)
          have hLT := hyT.below bB
          clear hL hLB hyT
          have hL := hLT
          clear hLT
          clear hM
          have hM := hMB
          clear hMB
          have hT : Row wB wD.heap.size 50 (tcC 0 0 0) := rB
          clear rB bB
          refine hK.out _ _ hM.g (fun hSx => ?_)
          clear hK K
          try simp only [Act.put, List.setIfInBounds_toArray, List.set_cons_zero, List.set_cons_succ]
          refine wpAnyH_ready (rs := [9]) (by kernel_rfl) (by simp) ?_
          refine AllReadyH.cons (o := { dst := none, op := Go.Op.store 48 (Go.Operand.tmp 3) (Go.Operand.tmp 23), type := 0, pos := "ref.go:242", after := #[{ on := 5, ground := Go.Ground.data }, { on := 3, ground := Go.Ground.chain }, { on := 0, ground := Go.Ground.phase }, { on := 1, ground := Go.Ground.phase }, { on := 2, ground := Go.Ground.phase }, { on := 3, ground := Go.Ground.phase }, { on := 4, ground := Go.Ground.phase }, { on := 5, ground := Go.Ground.phase }, { on := 6, ground := Go.Ground.textOnly Go.Departure.lateStores }, { on := 7, ground := Go.Ground.textOnly Go.Departure.lateStores }, { on := 8, ground := Go.Ground.phase }], guard := none }) rfl (fun K hK => ?_) AllReadyH.nil
          refine storeRow_step rfl 48 (.tmp 3) (.tmp 23) rfl w1.heap.size rfl ([.slice X1 y1 z1, .slice X2 y2 z2, .slice X3 y3 z3]) rfl (rp_size.trans (congrArg some rfl)) 48 [.slice A1 n1 c1, .slice A2 n2 c2, .slice A3 n3 c3] hM.p rfl rp_one ?_
          intro wE rwE owE zwE
          have hME := hM.plain owE rwE
          have hTE := hT.only owE (fun e => by have := hM.lt; omega)
          have hLE := hL.only owE (fun y e p => by have := hM.lt; omega)
          clear hM hT hL
          have hM := hME
          have hT := hTE
          have hL := hLE
          clear hME hTE hLE
          refine hK.out _ _ hM.g (fun hSx => ?_)
          clear hK K
          try simp only [Act.put]
          refine wpAnyH_ready (rs := [10]) (by kernel_rfl) (by simp) ?_
          refine AllReadyH.cons (o := { dst := none, op := Go.Op.store 50 (Go.Operand.tmp 9) (Go.Operand.tmp 24), type := 0, pos := "ref.go:242", after := #[{ on := 8, ground := Go.Ground.data }, { on := 6, ground := Go.Ground.data }, { on := 9, ground := Go.Ground.chain }, { on := 0, ground := Go.Ground.phase }, { on := 1, ground := Go.Ground.phase }, { on := 2, ground := Go.Ground.phase }, { on := 3, ground := Go.Ground.phase }, { on := 4, ground := Go.Ground.phase }, { on := 5, ground := Go.Ground.phase }, { on := 6, ground := Go.Ground.phase }, { on := 7, ground := Go.Ground.textOnly Go.Departure.lateStores }, { on := 8, ground := Go.Ground.phase }, { on := 9, ground := Go.Ground.phase }], guard := none }) rfl (fun K hK => ?_) AllReadyH.nil
          refine storeRow_step rfl 50 (.tmp 9) (.tmp 24) rfl wD.heap.size rfl (tcC (dX14 VW EW κ i u).1 (dX14 VW EW κ i u).2.1 (dX14 VW EW κ i u).2.2) rfl (rt_size.trans (congrArg some rfl)) 50 (tcC 0 0 0) hT rfl (rt_one _ _ _) ?_
          intro wF rwF owF zwF
          have hMF := hM.other owF (by omega)
          have hLF := hL.only owF (fun y e p => by omega)
          clear hM hT hL
          have hM := hMF
          have hL := hLF
          clear hMF hLF
          refine hK.out _ _ hM.g (fun hSx => ?_)
          clear hK K
          try simp only [Act.put]
          refine' wpAnyH_take (i := 11) (oi := { dst := some 10, op := Go.Op.assign (Go.Operand.tmp 25), type := 3, pos := "ref.go:242", after := #[{ on := 7, ground := Go.Ground.data }, { on := 10, ground := Go.Ground.chain }, { on := 0, ground := Go.Ground.phase }, { on := 1, ground := Go.Ground.phase }, { on := 2, ground := Go.Ground.phase }, { on := 3, ground := Go.Ground.phase }, { on := 4, ground := Go.Ground.phase }, { on := 5, ground := Go.Ground.phase }, { on := 6, ground := Go.Ground.phase }, { on := 7, ground := Go.Ground.phase }, { on := 8, ground := Go.Ground.phase }, { on := 9, ground := Go.Ground.phase }, { on := 10, ground := Go.Ground.phase }], guard := none }) (v := _) rfl (by kernel_rfl) (by kernel_rfl) (by kernel_rfl) (fun _ _ _ h => h) (Or.inl ⟨by rfl, ?hy25⟩) (by assumption) ?rest25
          case hy25 => (intro w hSw; (try dsimp only at hSw); go_simp; try with_reducible rfl)
          try simp only [Act.put, List.setIfInBounds_toArray, List.set_cons_zero, List.set_cons_succ]
          refine wpAnyH_done (by kernel_rfl) ?_ _
          have I : MidR w wF w1.heap.size w2.heap.size w3.heap.size w4.heap.size (wD.heap.size) P Pp G (.slice Af nf cf) (.slice Ao no co) (.slice Al nl cl) VN EW KN (dX14 VW EW κ i u) (.slice X1 y1 z1) (.slice X2 y2 z2) (.slice X3 y3 z3) := ⟨hM, rwF, by omega, hL, HRO.out.below hM.below⟩
          clear hM hL rwE rwF owF zwF hSx
          generalize (wD.heap.size) = gT at I ⊢
          revert I
          revert gT
          revert wF X1 y1 z1 X2 y2 z2 X3 y3 z3
          exact key.down
        · refine alloc_step rfl 50 rfl _ rt_zero ?_
          intro wB rB bB zB
          have hMB := hM.quiet bB
          have ht4 : w4.heap.size < wA.heap.size := hM.lt.2.2.2.2
          clear hM
          have hM := hMB
          clear hMB
          have hT : Row wB wA.heap.size 50 (tcC 0 0 0) := rB
          clear rB bB
          refine hK.out _ _ hM.g (fun hSx => ?_)
          clear hK K
          try simp only [Act.put, List.setIfInBounds_toArray, List.set_cons_zero, List.set_cons_succ]
          refine wpAnyH_ready (rs := [3]) (by kernel_rfl) (by simp) ?_
          refine AllReadyH.cons (o := { dst := some 22, op := Go.Op.call { callee := Go.Callee.value (Go.Operand.func 35), args := #[Go.Operand.tmp 19, Go.Operand.tmp 21], argTypes := #[48, 50] }, type := 79, pos := "ref.go:242", after := #[{ on := 0, ground := Go.Ground.data }, { on := 2, ground := Go.Ground.data }, { on := 2, ground := Go.Ground.chain }], guard := none }) rfl (fun K hK => ?_) AllReadyH.nil
          go_simp
          go_at_call 35
          refine (KD.out _ hM.below).mono ?_
          rintro e wD ⟨X1, y1, z1, X2, y2, z2, X3, y3, z3, rfl, lD, bD⟩
          have hMD := hM.quiet bD
          have hs3 := hM.lt.2.2.2.2
          have hTD := hT.below bD
          have hst := hT.lt
          have hL := lD.weak (Q := fun y => (Pp y ∨ w.heap.size ≤ y) ∧ (y < w.heap.size ∨ w4.heap.size < y) ∧ y ≠ wA.heap.size) (fun y hy p => ⟨by rcases p with p | p; exact .inl p.1; exact .inr (by have := hM.below.size; omega), by rcases p with p | p <;> omega, by rcases p with p | p; have := hM.below.size; have := hM.lt; omega; omega⟩)
          clear hM lD
          have hM := hMD
          clear hMD
          clear hT
          have hT := hTD
          clear hTD
          go_wp2_with fail
          refine hK.out _ _ hM.g (fun hSx => ?_)
          clear hK K
          try simp only [Act.put, List.setIfInBounds_toArray, List.set_cons_zero, List.set_cons_succ]
          refine' wpAnyH_take (i := 4) (oi := { dst := some 18, op := Go.Op.move (Go.Operand.tmp 22), type := 79, pos := "ref.go:242", after := #[{ on := 3, ground := Go.Ground.data }], guard := none }) (v := _) rfl (by kernel_rfl) (by kernel_rfl) (by kernel_rfl) (fun _ _ _ h => h) (Or.inl ⟨by rfl, ?hy27⟩) (by assumption) ?rest27
          case hy27 => (intro w hSw; (try dsimp only at hSw); go_simp; try with_reducible rfl)
          try simp only [Act.put, List.setIfInBounds_toArray, List.set_cons_zero, List.set_cons_succ]
          refine' wpAnyH_take (i := 5) (oi := { dst := some 23, op := Go.Op.extract (Go.Operand.tmp 18) 0, type := 48, pos := "ref.go:242", after := #[{ on := 4, ground := Go.Ground.data }], guard := none }) (v := _) rfl (by kernel_rfl) (by kernel_rfl) (by kernel_rfl) (fun _ _ _ h => h) (Or.inl ⟨by rfl, ?hy28⟩) (by assumption) ?rest28
          case hy28 => (intro w hSw; (try dsimp only at hSw); go_simp; try with_reducible rfl)
          try simp only [Act.put, List.setIfInBounds_toArray, List.set_cons_zero, List.set_cons_succ]
          refine' wpAnyH_take (i := 6) (oi := { dst := some 24, op := Go.Op.extract (Go.Operand.tmp 18) 1, type := 50, pos := "ref.go:242", after := #[{ on := 4, ground := Go.Ground.data }, { on := 9, ground := Go.Ground.gcOnly Go.Departure.lateStores }], guard := none }) (v := _) rfl (by kernel_rfl) (by kernel_rfl) (by kernel_rfl) (fun _ _ _ h => h) (Or.inl ⟨by rfl, ?hy29⟩) (by assumption) ?rest29
          case hy29 => (intro w hSw; (try dsimp only at hSw); go_simp; try with_reducible rfl)
          try simp only [Act.put, List.setIfInBounds_toArray, List.set_cons_zero, List.set_cons_succ]
          refine' wpAnyH_take (i := 7) (oi := { dst := some 25, op := Go.Op.extract (Go.Operand.tmp 18) 2, type := 3, pos := "ref.go:242", after := #[{ on := 4, ground := Go.Ground.data }, { on := 10, ground := Go.Ground.gcOnly Go.Departure.lateStores }], guard := none }) (v := _) rfl (by kernel_rfl) (by kernel_rfl) (by kernel_rfl) (fun _ _ _ h => h) (Or.inl ⟨by rfl, ?hy30⟩) (by assumption) ?rest30
          case hy30 => (intro w hSw; (try dsimp only at hSw); go_simp; try with_reducible rfl)
          try simp only [Act.put, List.setIfInBounds_toArray, List.set_cons_zero, List.set_cons_succ]
          refine wpAnyH_ready (rs := [9]) (by kernel_rfl) (by simp) ?_
          refine AllReadyH.cons (o := { dst := none, op := Go.Op.store 48 (Go.Operand.tmp 3) (Go.Operand.tmp 23), type := 0, pos := "ref.go:242", after := #[{ on := 5, ground := Go.Ground.data }, { on := 3, ground := Go.Ground.chain }, { on := 0, ground := Go.Ground.phase }, { on := 1, ground := Go.Ground.phase }, { on := 2, ground := Go.Ground.phase }, { on := 3, ground := Go.Ground.phase }, { on := 4, ground := Go.Ground.phase }, { on := 5, ground := Go.Ground.phase }, { on := 6, ground := Go.Ground.textOnly Go.Departure.lateStores }, { on := 7, ground := Go.Ground.textOnly Go.Departure.lateStores }, { on := 8, ground := Go.Ground.phase }], guard := none }) rfl (fun K hK => ?_) AllReadyH.nil
          refine storeRow_step rfl 48 (.tmp 3) (.tmp 23) rfl w1.heap.size rfl ([.slice X1 y1 z1, .slice X2 y2 z2, .slice X3 y3 z3]) rfl (rp_size.trans (congrArg some rfl)) 48 [.slice A1 n1 c1, .slice A2 n2 c2, .slice A3 n3 c3] hM.p rfl rp_one ?_
          intro wE rwE owE zwE
          have hME := hM.plain owE rwE
          have hTE := hT.only owE (fun e => by have := hM.lt; omega)
          have hLE := hL.only owE (fun y e p => by have := hM.lt; omega)
          clear hM hT hL
          have hM := hME
          have hT := hTE
          have hL := hLE
          clear hME hTE hLE
          refine hK.out _ _ hM.g (fun hSx => ?_)
          clear hK K
          try simp only [Act.put]
          refine wpAnyH_ready (rs := [10]) (by kernel_rfl) (by simp) ?_
          refine AllReadyH.cons (o := { dst := none, op := Go.Op.store 50 (Go.Operand.tmp 9) (Go.Operand.tmp 24), type := 0, pos := "ref.go:242", after := #[{ on := 8, ground := Go.Ground.data }, { on := 6, ground := Go.Ground.data }, { on := 9, ground := Go.Ground.chain }, { on := 0, ground := Go.Ground.phase }, { on := 1, ground := Go.Ground.phase }, { on := 2, ground := Go.Ground.phase }, { on := 3, ground := Go.Ground.phase }, { on := 4, ground := Go.Ground.phase }, { on := 5, ground := Go.Ground.phase }, { on := 6, ground := Go.Ground.phase }, { on := 7, ground := Go.Ground.textOnly Go.Departure.lateStores }, { on := 8, ground := Go.Ground.phase }, { on := 9, ground := Go.Ground.phase }], guard := none }) rfl (fun K hK => ?_) AllReadyH.nil
          refine storeRow_step rfl 50 (.tmp 9) (.tmp 24) rfl wA.heap.size rfl (tcC (dX14 VW EW κ i u).1 (dX14 VW EW κ i u).2.1 (dX14 VW EW κ i u).2.2) rfl (rt_size.trans (congrArg some rfl)) 50 (tcC 0 0 0) hT rfl (rt_one _ _ _) ?_
          intro wF rwF owF zwF
          have hMF := hM.other owF (by omega)
          have hLF := hL.only owF (fun y e p => by omega)
          clear hM hT hL
          have hM := hMF
          have hL := hLF
          clear hMF hLF
          refine hK.out _ _ hM.g (fun hSx => ?_)
          clear hK K
          try simp only [Act.put]
          refine' wpAnyH_take (i := 11) (oi := { dst := some 10, op := Go.Op.assign (Go.Operand.tmp 25), type := 3, pos := "ref.go:242", after := #[{ on := 7, ground := Go.Ground.data }, { on := 10, ground := Go.Ground.chain }, { on := 0, ground := Go.Ground.phase }, { on := 1, ground := Go.Ground.phase }, { on := 2, ground := Go.Ground.phase }, { on := 3, ground := Go.Ground.phase }, { on := 4, ground := Go.Ground.phase }, { on := 5, ground := Go.Ground.phase }, { on := 6, ground := Go.Ground.phase }, { on := 7, ground := Go.Ground.phase }, { on := 8, ground := Go.Ground.phase }, { on := 9, ground := Go.Ground.phase }, { on := 10, ground := Go.Ground.phase }], guard := none }) (v := _) rfl (by kernel_rfl) (by kernel_rfl) (by kernel_rfl) (fun _ _ _ h => h) (Or.inl ⟨by rfl, ?hy33⟩) (by assumption) ?rest33
          case hy33 => (intro w hSw; (try dsimp only at hSw); go_simp; try with_reducible rfl)
          try simp only [Act.put, List.setIfInBounds_toArray, List.set_cons_zero, List.set_cons_succ]
          refine wpAnyH_done (by kernel_rfl) ?_ _
          have I : MidR w wF w1.heap.size w2.heap.size w3.heap.size w4.heap.size (wA.heap.size) P Pp G (.slice Af nf cf) (.slice Ao no co) (.slice Al nl cl) VN EW KN (dX14 VW EW κ i u) (.slice X1 y1 z1) (.slice X2 y2 z2) (.slice X3 y3 z3) := ⟨hM, rwF, by omega, hL, HRO.out.below hM.below⟩
          clear hM hL rwE rwF owF zwF hSx
          generalize (wA.heap.size) = gT at I ⊢
          revert I
          revert gT
          revert wF X1 y1 z1 X2 y2 z2 X3 y3 z3
          exact key.down
      · refine alloc_step rfl 50 rfl _ rt_zero ?_
        intro wB rB bB zB
        have hMB := hM.quiet bB
        have ht4 : w4.heap.size < w5.heap.size := hM.lt.2.2.2.2
        clear hM
        have hM := hMB
        clear hMB
        have hT : Row wB w5.heap.size 50 (tcC 0 0 0) := rB
        clear rB bB
        refine hK.out _ _ hM.g (fun hSx => ?_)
        clear hK K
        try simp only [Act.put, List.setIfInBounds_toArray, List.set_cons_zero, List.set_cons_succ]
        refine wpAnyH_ready (rs := [2]) (by kernel_rfl) (by simp) ?_
        refine AllReadyH.cons (o := { dst := some 21, op := Go.Op.call { callee := Go.Callee.value (Go.Operand.func 36), args := #[Go.Operand.tmp 20], argTypes := #[35] }, type := 50, pos := "ref.go:242", after := #[{ on := 1, ground := Go.Ground.data }], guard := none }) rfl (fun K hK => ?_) AllReadyH.nil
        go_simp
        go_at_call 36
        refine (KT.out _ hM.below).mono ?_
        rintro e wA ⟨rfl, bA⟩
        have hMA := hM.quiet bA
        have hTA := hT.below bA
        clear hM
        have hM := hMA
        clear hMA
        clear hT
        have hT := hTA
        clear hTA
        go_wp2_with fail
        refine hK.out _ _ hM.g (fun hSx => ?_)
        clear hK K
        try simp only [Act.put, List.setIfInBounds_toArray, List.set_cons_zero, List.set_cons_succ]
        refine wpAnyH_ready (rs := [3]) (by kernel_rfl) (by simp) ?_
        refine AllReadyH.cons (o := { dst := some 22, op := Go.Op.call { callee := Go.Callee.value (Go.Operand.func 35), args := #[Go.Operand.tmp 19, Go.Operand.tmp 21], argTypes := #[48, 50] }, type := 79, pos := "ref.go:242", after := #[{ on := 0, ground := Go.Ground.data }, { on := 2, ground := Go.Ground.data }, { on := 2, ground := Go.Ground.chain }], guard := none }) rfl (fun K hK => ?_) AllReadyH.nil
        go_simp
        go_at_call 35
        refine (KD.out _ hM.below).mono ?_
        rintro e wD ⟨X1, y1, z1, X2, y2, z2, X3, y3, z3, rfl, lD, bD⟩
        have hMD := hM.quiet bD
        have hs3 := hM.lt.2.2.2.2
        have hTD := hT.below bD
        have hst := hT.lt
        have hL := lD.weak (Q := fun y => (Pp y ∨ w.heap.size ≤ y) ∧ (y < w.heap.size ∨ w4.heap.size < y) ∧ y ≠ w5.heap.size) (fun y hy p => ⟨by rcases p with p | p; exact .inl p.1; exact .inr (by have := hM.below.size; omega), by rcases p with p | p <;> omega, by rcases p with p | p; have := hM.below.size; have := hM.lt; omega; omega⟩)
        clear hM lD
        have hM := hMD
        clear hMD
        clear hT
        have hT := hTD
        clear hTD
        go_wp2_with fail
        refine hK.out _ _ hM.g (fun hSx => ?_)
        clear hK K
        try simp only [Act.put, List.setIfInBounds_toArray, List.set_cons_zero, List.set_cons_succ]
        refine' wpAnyH_take (i := 4) (oi := { dst := some 18, op := Go.Op.move (Go.Operand.tmp 22), type := 79, pos := "ref.go:242", after := #[{ on := 3, ground := Go.Ground.data }], guard := none }) (v := _) rfl (by kernel_rfl) (by kernel_rfl) (by kernel_rfl) (fun _ _ _ h => h) (Or.inl ⟨by rfl, ?hy36⟩) (by assumption) ?rest36
        case hy36 => (intro w hSw; (try dsimp only at hSw); go_simp; try with_reducible rfl)
        try simp only [Act.put, List.setIfInBounds_toArray, List.set_cons_zero, List.set_cons_succ]
        refine' wpAnyH_take (i := 5) (oi := { dst := some 23, op := Go.Op.extract (Go.Operand.tmp 18) 0, type := 48, pos := "ref.go:242", after := #[{ on := 4, ground := Go.Ground.data }], guard := none }) (v := _) rfl (by kernel_rfl) (by kernel_rfl) (by kernel_rfl) (fun _ _ _ h => h) (Or.inl ⟨by rfl, ?hy37⟩) (by assumption) ?rest37
        case hy37 => (intro w hSw; (try dsimp only at hSw); go_simp; try with_reducible rfl)
        try simp only [Act.put, List.setIfInBounds_toArray, List.set_cons_zero, List.set_cons_succ]
        refine' wpAnyH_take (i := 6) (oi := { dst := some 24, op := Go.Op.extract (Go.Operand.tmp 18) 1, type := 50, pos := "ref.go:242", after := #[{ on := 4, ground := Go.Ground.data }, { on := 9, ground := Go.Ground.gcOnly Go.Departure.lateStores }], guard := none }) (v := _) rfl (by kernel_rfl) (by kernel_rfl) (by kernel_rfl) (fun _ _ _ h => h) (Or.inl ⟨by rfl, ?hy38⟩) (by assumption) ?rest38
        case hy38 => (intro w hSw; (try dsimp only at hSw); go_simp; try with_reducible rfl)
        try simp only [Act.put, List.setIfInBounds_toArray, List.set_cons_zero, List.set_cons_succ]
        refine' wpAnyH_take (i := 7) (oi := { dst := some 25, op := Go.Op.extract (Go.Operand.tmp 18) 2, type := 3, pos := "ref.go:242", after := #[{ on := 4, ground := Go.Ground.data }, { on := 10, ground := Go.Ground.gcOnly Go.Departure.lateStores }], guard := none }) (v := _) rfl (by kernel_rfl) (by kernel_rfl) (by kernel_rfl) (fun _ _ _ h => h) (Or.inl ⟨by rfl, ?hy39⟩) (by assumption) ?rest39
        case hy39 => (intro w hSw; (try dsimp only at hSw); go_simp; try with_reducible rfl)
        try simp only [Act.put, List.setIfInBounds_toArray, List.set_cons_zero, List.set_cons_succ]
        refine wpAnyH_ready (rs := [9]) (by kernel_rfl) (by simp) ?_
        refine AllReadyH.cons (o := { dst := none, op := Go.Op.store 48 (Go.Operand.tmp 3) (Go.Operand.tmp 23), type := 0, pos := "ref.go:242", after := #[{ on := 5, ground := Go.Ground.data }, { on := 3, ground := Go.Ground.chain }, { on := 0, ground := Go.Ground.phase }, { on := 1, ground := Go.Ground.phase }, { on := 2, ground := Go.Ground.phase }, { on := 3, ground := Go.Ground.phase }, { on := 4, ground := Go.Ground.phase }, { on := 5, ground := Go.Ground.phase }, { on := 6, ground := Go.Ground.textOnly Go.Departure.lateStores }, { on := 7, ground := Go.Ground.textOnly Go.Departure.lateStores }, { on := 8, ground := Go.Ground.phase }], guard := none }) rfl (fun K hK => ?_) AllReadyH.nil
        refine storeRow_step rfl 48 (.tmp 3) (.tmp 23) rfl w1.heap.size rfl ([.slice X1 y1 z1, .slice X2 y2 z2, .slice X3 y3 z3]) rfl (rp_size.trans (congrArg some rfl)) 48 [.slice A1 n1 c1, .slice A2 n2 c2, .slice A3 n3 c3] hM.p rfl rp_one ?_
        intro wE rwE owE zwE
        have hME := hM.plain owE rwE
        have hTE := hT.only owE (fun e => by have := hM.lt; omega)
        have hLE := hL.only owE (fun y e p => by have := hM.lt; omega)
        clear hM hT hL
        have hM := hME
        have hT := hTE
        have hL := hLE
        clear hME hTE hLE
        refine hK.out _ _ hM.g (fun hSx => ?_)
        clear hK K
        try simp only [Act.put]
        refine wpAnyH_ready (rs := [10]) (by kernel_rfl) (by simp) ?_
        refine AllReadyH.cons (o := { dst := none, op := Go.Op.store 50 (Go.Operand.tmp 9) (Go.Operand.tmp 24), type := 0, pos := "ref.go:242", after := #[{ on := 8, ground := Go.Ground.data }, { on := 6, ground := Go.Ground.data }, { on := 9, ground := Go.Ground.chain }, { on := 0, ground := Go.Ground.phase }, { on := 1, ground := Go.Ground.phase }, { on := 2, ground := Go.Ground.phase }, { on := 3, ground := Go.Ground.phase }, { on := 4, ground := Go.Ground.phase }, { on := 5, ground := Go.Ground.phase }, { on := 6, ground := Go.Ground.phase }, { on := 7, ground := Go.Ground.textOnly Go.Departure.lateStores }, { on := 8, ground := Go.Ground.phase }, { on := 9, ground := Go.Ground.phase }], guard := none }) rfl (fun K hK => ?_) AllReadyH.nil
        refine storeRow_step rfl 50 (.tmp 9) (.tmp 24) rfl w5.heap.size rfl (tcC (dX14 VW EW κ i u).1 (dX14 VW EW κ i u).2.1 (dX14 VW EW κ i u).2.2) rfl (rt_size.trans (congrArg some rfl)) 50 (tcC 0 0 0) hT rfl (rt_one _ _ _) ?_
        intro wF rwF owF zwF
        have hMF := hM.other owF (by omega)
        have hLF := hL.only owF (fun y e p => by omega)
        clear hM hT hL
        have hM := hMF
        have hL := hLF
        clear hMF hLF
        refine hK.out _ _ hM.g (fun hSx => ?_)
        clear hK K
        try simp only [Act.put]
        refine' wpAnyH_take (i := 11) (oi := { dst := some 10, op := Go.Op.assign (Go.Operand.tmp 25), type := 3, pos := "ref.go:242", after := #[{ on := 7, ground := Go.Ground.data }, { on := 10, ground := Go.Ground.chain }, { on := 0, ground := Go.Ground.phase }, { on := 1, ground := Go.Ground.phase }, { on := 2, ground := Go.Ground.phase }, { on := 3, ground := Go.Ground.phase }, { on := 4, ground := Go.Ground.phase }, { on := 5, ground := Go.Ground.phase }, { on := 6, ground := Go.Ground.phase }, { on := 7, ground := Go.Ground.phase }, { on := 8, ground := Go.Ground.phase }, { on := 9, ground := Go.Ground.phase }, { on := 10, ground := Go.Ground.phase }], guard := none }) (v := _) rfl (by kernel_rfl) (by kernel_rfl) (by kernel_rfl) (fun _ _ _ h => h) (Or.inl ⟨by rfl, ?hy42⟩) (by assumption) ?rest42
        case hy42 => (intro w hSw; (try dsimp only at hSw); go_simp; try with_reducible rfl)
        try simp only [Act.put, List.setIfInBounds_toArray, List.set_cons_zero, List.set_cons_succ]
        refine wpAnyH_done (by kernel_rfl) ?_ _
        have I : MidR w wF w1.heap.size w2.heap.size w3.heap.size w4.heap.size (w5.heap.size) P Pp G (.slice Af nf cf) (.slice Ao no co) (.slice Al nl cl) VN EW KN (dX14 VW EW κ i u) (.slice X1 y1 z1) (.slice X2 y2 z2) (.slice X3 y3 z3) := ⟨hM, rwF, by omega, hL, HRO.out.below hM.below⟩
        clear hM hL rwE rwF owF zwF hSx
        generalize (w5.heap.size) = gT at I ⊢
        revert I
        revert gT
        revert wF X1 y1 z1 X2 y2 z2 X3 y3 z3
        exact key.down
    · go_simp
      go_at_call 36
      refine (KT.out _ hM.below).mono ?_
      rintro e wA ⟨rfl, bA⟩
      have hMA := hM.quiet bA
      clear hM
      have hM := hMA
      clear hMA
      go_wp2_with fail
      refine hK.out _ _ hM.g (fun hSx => ?_)
      clear hK K
      try simp only [Act.put, List.setIfInBounds_toArray, List.set_cons_zero, List.set_cons_succ]
      refine wpAnyH_ready (rs := [0, 8]) (by kernel_rfl) (by simp) ?_
      refine AllReadyH.cons (o := { dst := some 19, op := Go.Op.load 48 (Go.Operand.tmp 3), type := 48, pos := "ref.go:242", after := #[], guard := none }) rfl (fun K hK => ?_) (AllReadyH.cons (o := { dst := some 9, op := Go.Op.alloc 50, type := 0, pos := "ref.go:242", after := #[], guard := none }) rfl (fun K hK => ?_) AllReadyH.nil)
      · refine loadRow_step rfl 48 (.tmp 3) rfl w1.heap.size rfl [.slice A1 n1 c1, .slice A2 n2 c2, .slice A3 n3 c3] rp_struct (rp_size.trans (congrArg some rfl)) 48 hM.p ?_
        refine hK.out _ _ hM.g (fun hSx => ?_)
        clear hK K
        try simp only [Act.put, List.setIfInBounds_toArray, List.set_cons_zero, List.set_cons_succ]
        refine wpAnyH_ready (rs := [3, 8]) (by kernel_rfl) (by simp) ?_
        refine AllReadyH.cons (o := { dst := some 22, op := Go.Op.call { callee := Go.Callee.value (Go.Operand.func 35), args := #[Go.Operand.tmp 19, Go.Operand.tmp 21], argTypes := #[48, 50] }, type := 79, pos := "ref.go:242", after := #[{ on := 0, ground := Go.Ground.data }, { on := 2, ground := Go.Ground.data }, { on := 2, ground := Go.Ground.chain }], guard := none }) rfl (fun K hK => ?_) (AllReadyH.cons (o := { dst := some 9, op := Go.Op.alloc 50, type := 0, pos := "ref.go:242", after := #[], guard := none }) rfl (fun K hK => ?_) AllReadyH.nil)
        · go_simp
          go_at_call 35
          refine (KD.out _ hM.below).mono ?_
          rintro e wD ⟨X1, y1, z1, X2, y2, z2, X3, y3, z3, rfl, lD, bD⟩
          have hMD := hM.quiet bD
          have hs3 := hM.lt.2.2.2.2
          have hL := lD.weak (Q := fun y => (Pp y ∨ w.heap.size ≤ y) ∧ (y < w.heap.size ∨ w4.heap.size < y)) (fun y hy p => ⟨by rcases p with p | p; exact .inl p.1; exact .inr (by have := hM.below.size; omega), by rcases p with p | p <;> omega⟩)
          clear hM lD
          have hM := hMD
          clear hMD
          go_wp2_with fail
          refine hK.out _ _ hM.g (fun hSx => ?_)
          clear hK K
          try simp only [Act.put, List.setIfInBounds_toArray, List.set_cons_zero, List.set_cons_succ]
          refine' wpAnyH_take (i := 4) (oi := { dst := some 18, op := Go.Op.move (Go.Operand.tmp 22), type := 79, pos := "ref.go:242", after := #[{ on := 3, ground := Go.Ground.data }], guard := none }) (v := _) rfl (by kernel_rfl) (by kernel_rfl) (by kernel_rfl) (fun _ _ _ h => h) (Or.inl ⟨by rfl, ?hy47⟩) (by assumption) ?rest47
          case hy47 => (intro w hSw; (try dsimp only at hSw); go_simp; try with_reducible rfl)
          try simp only [Act.put, List.setIfInBounds_toArray, List.set_cons_zero, List.set_cons_succ]
          refine' wpAnyH_take (i := 5) (oi := { dst := some 23, op := Go.Op.extract (Go.Operand.tmp 18) 0, type := 48, pos := "ref.go:242", after := #[{ on := 4, ground := Go.Ground.data }], guard := none }) (v := _) rfl (by kernel_rfl) (by kernel_rfl) (by kernel_rfl) (fun _ _ _ h => h) (Or.inl ⟨by rfl, ?hy48⟩) (by assumption) ?rest48
          case hy48 => (intro w hSw; (try dsimp only at hSw); go_simp; try with_reducible rfl)
          try simp only [Act.put, List.setIfInBounds_toArray, List.set_cons_zero, List.set_cons_succ]
          refine' wpAnyH_take (i := 6) (oi := { dst := some 24, op := Go.Op.extract (Go.Operand.tmp 18) 1, type := 50, pos := "ref.go:242", after := #[{ on := 4, ground := Go.Ground.data }, { on := 9, ground := Go.Ground.gcOnly Go.Departure.lateStores }], guard := none }) (v := _) rfl (by kernel_rfl) (by kernel_rfl) (by kernel_rfl) (fun _ _ _ h => h) (Or.inl ⟨by rfl, ?hy49⟩) (by assumption) ?rest49
          case hy49 => (intro w hSw; (try dsimp only at hSw); go_simp; try with_reducible rfl)
          try simp only [Act.put, List.setIfInBounds_toArray, List.set_cons_zero, List.set_cons_succ]
          refine' wpAnyH_take (i := 7) (oi := { dst := some 25, op := Go.Op.extract (Go.Operand.tmp 18) 2, type := 3, pos := "ref.go:242", after := #[{ on := 4, ground := Go.Ground.data }, { on := 10, ground := Go.Ground.gcOnly Go.Departure.lateStores }], guard := none }) (v := _) rfl (by kernel_rfl) (by kernel_rfl) (by kernel_rfl) (fun _ _ _ h => h) (Or.inl ⟨by rfl, ?hy50⟩) (by assumption) ?rest50
          case hy50 => (intro w hSw; (try dsimp only at hSw); go_simp; try with_reducible rfl)
          try simp only [Act.put, List.setIfInBounds_toArray, List.set_cons_zero, List.set_cons_succ]
          refine wpAnyH_ready (rs := [8]) (by kernel_rfl) (by simp) ?_
          refine AllReadyH.cons (o := { dst := some 9, op := Go.Op.alloc 50, type := 0, pos := "ref.go:242", after := #[], guard := none }) rfl (fun K hK => ?_) AllReadyH.nil
          refine alloc_step rfl 50 rfl _ rt_zero ?_
          intro wB rB bB zB
          have hMB := hM.quiet bB
          have ht4 : w4.heap.size < wD.heap.size := hM.lt.2.2.2.2
          have hLB := hL.below bB
          have hyT := hL.weak (Q := fun y => (Pp y ∨ w.heap.size ≤ y) ∧ (y < w.heap.size ∨ w4.heap.size < y) ∧ y ≠ wD.heap.size) (fun y hy p => ⟨p.1, p.2, by omega⟩)
          have hLT := hyT.below bB
          clear hL hLB hyT
          have hL := hLT
          clear hLT
          clear hM
          have hM := hMB
          clear hMB
          have hT : Row wB wD.heap.size 50 (tcC 0 0 0) := rB
          clear rB bB
          refine hK.out _ _ hM.g (fun hSx => ?_)
          clear hK K
          try simp only [Act.put, List.setIfInBounds_toArray, List.set_cons_zero, List.set_cons_succ]
          refine wpAnyH_ready (rs := [9]) (by kernel_rfl) (by simp) ?_
          refine AllReadyH.cons (o := { dst := none, op := Go.Op.store 48 (Go.Operand.tmp 3) (Go.Operand.tmp 23), type := 0, pos := "ref.go:242", after := #[{ on := 5, ground := Go.Ground.data }, { on := 3, ground := Go.Ground.chain }, { on := 0, ground := Go.Ground.phase }, { on := 1, ground := Go.Ground.phase }, { on := 2, ground := Go.Ground.phase }, { on := 3, ground := Go.Ground.phase }, { on := 4, ground := Go.Ground.phase }, { on := 5, ground := Go.Ground.phase }, { on := 6, ground := Go.Ground.textOnly Go.Departure.lateStores }, { on := 7, ground := Go.Ground.textOnly Go.Departure.lateStores }, { on := 8, ground := Go.Ground.phase }], guard := none }) rfl (fun K hK => ?_) AllReadyH.nil
          refine storeRow_step rfl 48 (.tmp 3) (.tmp 23) rfl w1.heap.size rfl ([.slice X1 y1 z1, .slice X2 y2 z2, .slice X3 y3 z3]) rfl (rp_size.trans (congrArg some rfl)) 48 [.slice A1 n1 c1, .slice A2 n2 c2, .slice A3 n3 c3] hM.p rfl rp_one ?_
          intro wE rwE owE zwE
          have hME := hM.plain owE rwE
          have hTE := hT.only owE (fun e => by have := hM.lt; omega)
          have hLE := hL.only owE (fun y e p => by have := hM.lt; omega)
          clear hM hT hL
          have hM := hME
          have hT := hTE
          have hL := hLE
          clear hME hTE hLE
          refine hK.out _ _ hM.g (fun hSx => ?_)
          clear hK K
          try simp only [Act.put]
          refine wpAnyH_ready (rs := [10]) (by kernel_rfl) (by simp) ?_
          refine AllReadyH.cons (o := { dst := none, op := Go.Op.store 50 (Go.Operand.tmp 9) (Go.Operand.tmp 24), type := 0, pos := "ref.go:242", after := #[{ on := 8, ground := Go.Ground.data }, { on := 6, ground := Go.Ground.data }, { on := 9, ground := Go.Ground.chain }, { on := 0, ground := Go.Ground.phase }, { on := 1, ground := Go.Ground.phase }, { on := 2, ground := Go.Ground.phase }, { on := 3, ground := Go.Ground.phase }, { on := 4, ground := Go.Ground.phase }, { on := 5, ground := Go.Ground.phase }, { on := 6, ground := Go.Ground.phase }, { on := 7, ground := Go.Ground.textOnly Go.Departure.lateStores }, { on := 8, ground := Go.Ground.phase }, { on := 9, ground := Go.Ground.phase }], guard := none }) rfl (fun K hK => ?_) AllReadyH.nil
          refine storeRow_step rfl 50 (.tmp 9) (.tmp 24) rfl wD.heap.size rfl (tcC (dX14 VW EW κ i u).1 (dX14 VW EW κ i u).2.1 (dX14 VW EW κ i u).2.2) rfl (rt_size.trans (congrArg some rfl)) 50 (tcC 0 0 0) hT rfl (rt_one _ _ _) ?_
          intro wF rwF owF zwF
          have hMF := hM.other owF (by omega)
          have hLF := hL.only owF (fun y e p => by omega)
          clear hM hT hL
          have hM := hMF
          have hL := hLF
          clear hMF hLF
          refine hK.out _ _ hM.g (fun hSx => ?_)
          clear hK K
          try simp only [Act.put]
          refine' wpAnyH_take (i := 11) (oi := { dst := some 10, op := Go.Op.assign (Go.Operand.tmp 25), type := 3, pos := "ref.go:242", after := #[{ on := 7, ground := Go.Ground.data }, { on := 10, ground := Go.Ground.chain }, { on := 0, ground := Go.Ground.phase }, { on := 1, ground := Go.Ground.phase }, { on := 2, ground := Go.Ground.phase }, { on := 3, ground := Go.Ground.phase }, { on := 4, ground := Go.Ground.phase }, { on := 5, ground := Go.Ground.phase }, { on := 6, ground := Go.Ground.phase }, { on := 7, ground := Go.Ground.phase }, { on := 8, ground := Go.Ground.phase }, { on := 9, ground := Go.Ground.phase }, { on := 10, ground := Go.Ground.phase }], guard := none }) (v := _) rfl (by kernel_rfl) (by kernel_rfl) (by kernel_rfl) (fun _ _ _ h => h) (Or.inl ⟨by rfl, ?hy54⟩) (by assumption) ?rest54
          case hy54 => (intro w hSw; (try dsimp only at hSw); go_simp; try with_reducible rfl)
          try simp only [Act.put, List.setIfInBounds_toArray, List.set_cons_zero, List.set_cons_succ]
          refine wpAnyH_done (by kernel_rfl) ?_ _
          have I : MidR w wF w1.heap.size w2.heap.size w3.heap.size w4.heap.size (wD.heap.size) P Pp G (.slice Af nf cf) (.slice Ao no co) (.slice Al nl cl) VN EW KN (dX14 VW EW κ i u) (.slice X1 y1 z1) (.slice X2 y2 z2) (.slice X3 y3 z3) := ⟨hM, rwF, by omega, hL, HRO.out.below hM.below⟩
          clear hM hL rwE rwF owF zwF hSx
          generalize (wD.heap.size) = gT at I ⊢
          revert I
          revert gT
          revert wF X1 y1 z1 X2 y2 z2 X3 y3 z3
          exact key.down
        · refine alloc_step rfl 50 rfl _ rt_zero ?_
          intro wB rB bB zB
          have hMB := hM.quiet bB
          have ht4 : w4.heap.size < wA.heap.size := hM.lt.2.2.2.2
          clear hM
          have hM := hMB
          clear hMB
          have hT : Row wB wA.heap.size 50 (tcC 0 0 0) := rB
          clear rB bB
          refine hK.out _ _ hM.g (fun hSx => ?_)
          clear hK K
          try simp only [Act.put, List.setIfInBounds_toArray, List.set_cons_zero, List.set_cons_succ]
          refine wpAnyH_ready (rs := [3]) (by kernel_rfl) (by simp) ?_
          refine AllReadyH.cons (o := { dst := some 22, op := Go.Op.call { callee := Go.Callee.value (Go.Operand.func 35), args := #[Go.Operand.tmp 19, Go.Operand.tmp 21], argTypes := #[48, 50] }, type := 79, pos := "ref.go:242", after := #[{ on := 0, ground := Go.Ground.data }, { on := 2, ground := Go.Ground.data }, { on := 2, ground := Go.Ground.chain }], guard := none }) rfl (fun K hK => ?_) AllReadyH.nil
          go_simp
          go_at_call 35
          refine (KD.out _ hM.below).mono ?_
          rintro e wD ⟨X1, y1, z1, X2, y2, z2, X3, y3, z3, rfl, lD, bD⟩
          have hMD := hM.quiet bD
          have hs3 := hM.lt.2.2.2.2
          have hTD := hT.below bD
          have hst := hT.lt
          have hL := lD.weak (Q := fun y => (Pp y ∨ w.heap.size ≤ y) ∧ (y < w.heap.size ∨ w4.heap.size < y) ∧ y ≠ wA.heap.size) (fun y hy p => ⟨by rcases p with p | p; exact .inl p.1; exact .inr (by have := hM.below.size; omega), by rcases p with p | p <;> omega, by rcases p with p | p; have := hM.below.size; have := hM.lt; omega; omega⟩)
          clear hM lD
          have hM := hMD
          clear hMD
          clear hT
          have hT := hTD
          clear hTD
          go_wp2_with fail
          refine hK.out _ _ hM.g (fun hSx => ?_)
          clear hK K
          try simp only [Act.put, List.setIfInBounds_toArray, List.set_cons_zero, List.set_cons_succ]
          refine' wpAnyH_take (i := 4) (oi := { dst := some 18, op := Go.Op.move (Go.Operand.tmp 22), type := 79, pos := "ref.go:242", after := #[{ on := 3, ground := Go.Ground.data }], guard := none }) (v := _) rfl (by kernel_rfl) (by kernel_rfl) (by kernel_rfl) (fun _ _ _ h => h) (Or.inl ⟨by rfl, ?hy56⟩) (by assumption) ?rest56
          case hy56 => (intro w hSw; (try dsimp only at hSw); go_simp; try with_reducible rfl)
          try simp only [Act.put, List.setIfInBounds_toArray, List.set_cons_zero, List.set_cons_succ]
          refine' wpAnyH_take (i := 5) (oi := { dst := some 23, op := Go.Op.extract (Go.Operand.tmp 18) 0, type := 48, pos := "ref.go:242", after := #[{ on := 4, ground := Go.Ground.data }], guard := none }) (v := _) rfl (by kernel_rfl) (by kernel_rfl) (by kernel_rfl) (fun _ _ _ h => h) (Or.inl ⟨by rfl, ?hy57⟩) (by assumption) ?rest57
          case hy57 => (intro w hSw; (try dsimp only at hSw); go_simp; try with_reducible rfl)
          try simp only [Act.put, List.setIfInBounds_toArray, List.set_cons_zero, List.set_cons_succ]
          refine' wpAnyH_take (i := 6) (oi := { dst := some 24, op := Go.Op.extract (Go.Operand.tmp 18) 1, type := 50, pos := "ref.go:242", after := #[{ on := 4, ground := Go.Ground.data }, { on := 9, ground := Go.Ground.gcOnly Go.Departure.lateStores }], guard := none }) (v := _) rfl (by kernel_rfl) (by kernel_rfl) (by kernel_rfl) (fun _ _ _ h => h) (Or.inl ⟨by rfl, ?hy58⟩) (by assumption) ?rest58
          case hy58 => (intro w hSw; (try dsimp only at hSw); go_simp; try with_reducible rfl)
          try simp only [Act.put, List.setIfInBounds_toArray, List.set_cons_zero, List.set_cons_succ]
          refine' wpAnyH_take (i := 7) (oi := { dst := some 25, op := Go.Op.extract (Go.Operand.tmp 18) 2, type := 3, pos := "ref.go:242", after := #[{ on := 4, ground := Go.Ground.data }, { on := 10, ground := Go.Ground.gcOnly Go.Departure.lateStores }], guard := none }) (v := _) rfl (by kernel_rfl) (by kernel_rfl) (by kernel_rfl) (fun _ _ _ h => h) (Or.inl ⟨by rfl, ?hy59⟩) (by assumption) ?rest59
          case hy59 => (intro w hSw; (try dsimp only at hSw); go_simp; try with_reducible rfl)
          try simp only [Act.put, List.setIfInBounds_toArray, List.set_cons_zero, List.set_cons_succ]
          refine wpAnyH_ready (rs := [9]) (by kernel_rfl) (by simp) ?_
          refine AllReadyH.cons (o := { dst := none, op := Go.Op.store 48 (Go.Operand.tmp 3) (Go.Operand.tmp 23), type := 0, pos := "ref.go:242", after := #[{ on := 5, ground := Go.Ground.data }, { on := 3, ground := Go.Ground.chain }, { on := 0, ground := Go.Ground.phase }, { on := 1, ground := Go.Ground.phase }, { on := 2, ground := Go.Ground.phase }, { on := 3, ground := Go.Ground.phase }, { on := 4, ground := Go.Ground.phase }, { on := 5, ground := Go.Ground.phase }, { on := 6, ground := Go.Ground.textOnly Go.Departure.lateStores }, { on := 7, ground := Go.Ground.textOnly Go.Departure.lateStores }, { on := 8, ground := Go.Ground.phase }], guard := none }) rfl (fun K hK => ?_) AllReadyH.nil
          refine storeRow_step rfl 48 (.tmp 3) (.tmp 23) rfl w1.heap.size rfl ([.slice X1 y1 z1, .slice X2 y2 z2, .slice X3 y3 z3]) rfl (rp_size.trans (congrArg some rfl)) 48 [.slice A1 n1 c1, .slice A2 n2 c2, .slice A3 n3 c3] hM.p rfl rp_one ?_
          intro wE rwE owE zwE
          have hME := hM.plain owE rwE
          have hTE := hT.only owE (fun e => by have := hM.lt; omega)
          have hLE := hL.only owE (fun y e p => by have := hM.lt; omega)
          clear hM hT hL
          have hM := hME
          have hT := hTE
          have hL := hLE
          clear hME hTE hLE
          refine hK.out _ _ hM.g (fun hSx => ?_)
          clear hK K
          try simp only [Act.put]
          refine wpAnyH_ready (rs := [10]) (by kernel_rfl) (by simp) ?_
          refine AllReadyH.cons (o := { dst := none, op := Go.Op.store 50 (Go.Operand.tmp 9) (Go.Operand.tmp 24), type := 0, pos := "ref.go:242", after := #[{ on := 8, ground := Go.Ground.data }, { on := 6, ground := Go.Ground.data }, { on := 9, ground := Go.Ground.chain }, { on := 0, ground := Go.Ground.phase }, { on := 1, ground := Go.Ground.phase }, { on := 2, ground := Go.Ground.phase }, { on := 3, ground := Go.Ground.phase }, { on := 4, ground := Go.Ground.phase }, { on := 5, ground := Go.Ground.phase }, { on := 6, ground := Go.Ground.phase }, { on := 7, ground := Go.Ground.textOnly Go.Departure.lateStores }, { on := 8, ground := Go.Ground.phase }, { on := 9, ground := Go.Ground.phase }], guard := none }) rfl (fun K hK => ?_) AllReadyH.nil
          refine storeRow_step rfl 50 (.tmp 9) (.tmp 24) rfl wA.heap.size rfl (tcC (dX14 VW EW κ i u).1 (dX14 VW EW κ i u).2.1 (dX14 VW EW κ i u).2.2) rfl (rt_size.trans (congrArg some rfl)) 50 (tcC 0 0 0) hT rfl (rt_one _ _ _) ?_
          intro wF rwF owF zwF
          have hMF := hM.other owF (by omega)
          have hLF := hL.only owF (fun y e p => by omega)
          clear hM hT hL
          have hM := hMF
          have hL := hLF
          clear hMF hLF
          refine hK.out _ _ hM.g (fun hSx => ?_)
          clear hK K
          try simp only [Act.put]
          refine' wpAnyH_take (i := 11) (oi := { dst := some 10, op := Go.Op.assign (Go.Operand.tmp 25), type := 3, pos := "ref.go:242", after := #[{ on := 7, ground := Go.Ground.data }, { on := 10, ground := Go.Ground.chain }, { on := 0, ground := Go.Ground.phase }, { on := 1, ground := Go.Ground.phase }, { on := 2, ground := Go.Ground.phase }, { on := 3, ground := Go.Ground.phase }, { on := 4, ground := Go.Ground.phase }, { on := 5, ground := Go.Ground.phase }, { on := 6, ground := Go.Ground.phase }, { on := 7, ground := Go.Ground.phase }, { on := 8, ground := Go.Ground.phase }, { on := 9, ground := Go.Ground.phase }, { on := 10, ground := Go.Ground.phase }], guard := none }) (v := _) rfl (by kernel_rfl) (by kernel_rfl) (by kernel_rfl) (fun _ _ _ h => h) (Or.inl ⟨by rfl, ?hy62⟩) (by assumption) ?rest62
          case hy62 => (intro w hSw; (try dsimp only at hSw); go_simp; try with_reducible rfl)
          try simp only [Act.put, List.setIfInBounds_toArray, List.set_cons_zero, List.set_cons_succ]
          refine wpAnyH_done (by kernel_rfl) ?_ _
          have I : MidR w wF w1.heap.size w2.heap.size w3.heap.size w4.heap.size (wA.heap.size) P Pp G (.slice Af nf cf) (.slice Ao no co) (.slice Al nl cl) VN EW KN (dX14 VW EW κ i u) (.slice X1 y1 z1) (.slice X2 y2 z2) (.slice X3 y3 z3) := ⟨hM, rwF, by omega, hL, HRO.out.below hM.below⟩
          clear hM hL rwE rwF owF zwF hSx
          generalize (wA.heap.size) = gT at I ⊢
          revert I
          revert gT
          revert wF X1 y1 z1 X2 y2 z2 X3 y3 z3
          exact key.down
      · refine alloc_step rfl 50 rfl _ rt_zero ?_
        intro wB rB bB zB
        have hMB := hM.quiet bB
        have ht4 : w4.heap.size < wA.heap.size := hM.lt.2.2.2.2
        clear hM
        have hM := hMB
        clear hMB
        have hT : Row wB wA.heap.size 50 (tcC 0 0 0) := rB
        clear rB bB
        refine hK.out _ _ hM.g (fun hSx => ?_)
        clear hK K
        try simp only [Act.put, List.setIfInBounds_toArray, List.set_cons_zero, List.set_cons_succ]
        refine wpAnyH_ready (rs := [0]) (by kernel_rfl) (by simp) ?_
        refine AllReadyH.cons (o := { dst := some 19, op := Go.Op.load 48 (Go.Operand.tmp 3), type := 48, pos := "ref.go:242", after := #[], guard := none }) rfl (fun K hK => ?_) AllReadyH.nil
        refine loadRow_step rfl 48 (.tmp 3) rfl w1.heap.size rfl [.slice A1 n1 c1, .slice A2 n2 c2, .slice A3 n3 c3] rp_struct (rp_size.trans (congrArg some rfl)) 48 hM.p ?_
        refine hK.out _ _ hM.g (fun hSx => ?_)
        clear hK K
        try simp only [Act.put, List.setIfInBounds_toArray, List.set_cons_zero, List.set_cons_succ]
        refine wpAnyH_ready (rs := [3]) (by kernel_rfl) (by simp) ?_
        refine AllReadyH.cons (o := { dst := some 22, op := Go.Op.call { callee := Go.Callee.value (Go.Operand.func 35), args := #[Go.Operand.tmp 19, Go.Operand.tmp 21], argTypes := #[48, 50] }, type := 79, pos := "ref.go:242", after := #[{ on := 0, ground := Go.Ground.data }, { on := 2, ground := Go.Ground.data }, { on := 2, ground := Go.Ground.chain }], guard := none }) rfl (fun K hK => ?_) AllReadyH.nil
        go_simp
        go_at_call 35
        refine (KD.out _ hM.below).mono ?_
        rintro e wD ⟨X1, y1, z1, X2, y2, z2, X3, y3, z3, rfl, lD, bD⟩
        have hMD := hM.quiet bD
        have hs3 := hM.lt.2.2.2.2
        have hTD := hT.below bD
        have hst := hT.lt
        have hL := lD.weak (Q := fun y => (Pp y ∨ w.heap.size ≤ y) ∧ (y < w.heap.size ∨ w4.heap.size < y) ∧ y ≠ wA.heap.size) (fun y hy p => ⟨by rcases p with p | p; exact .inl p.1; exact .inr (by have := hM.below.size; omega), by rcases p with p | p <;> omega, by rcases p with p | p; have := hM.below.size; have := hM.lt; omega; omega⟩)
        clear hM lD
        have hM := hMD
        clear hMD
        clear hT
        have hT := hTD
        clear hTD
        go_wp2_with fail
        refine hK.out _ _ hM.g (fun hSx => ?_)
        clear hK K
        try simp only [Act.put, List.setIfInBounds_toArray, List.set_cons_zero, List.set_cons_succ]
        refine' wpAnyH_take (i := 4) (oi := { dst := some 18, op := Go.Op.move (Go.Operand.tmp 22), type := 79, pos := "ref.go:242", after := #[{ on := 3, ground := Go.Ground.data }], guard := none }) (v := _) rfl (by kernel_rfl) (by kernel_rfl) (by kernel_rfl) (fun _ _ _ h => h) (Or.inl ⟨by rfl, ?hy65⟩) (by assumption) ?rest65
        case hy65 => (intro w hSw; (try dsimp only at hSw); go_simp; try with_reducible rfl)
        try simp only [Act.put, List.setIfInBounds_toArray, List.set_cons_zero, List.set_cons_succ]
        refine' wpAnyH_take (i := 5) (oi := { dst := some 23, op := Go.Op.extract (Go.Operand.tmp 18) 0, type := 48, pos := "ref.go:242", after := #[{ on := 4, ground := Go.Ground.data }], guard := none }) (v := _) rfl (by kernel_rfl) (by kernel_rfl) (by kernel_rfl) (fun _ _ _ h => h) (Or.inl ⟨by rfl, ?hy66⟩) (by assumption) ?rest66
        case hy66 => (intro w hSw; (try dsimp only at hSw); go_simp; try with_reducible rfl)
        try simp only [Act.put, List.setIfInBounds_toArray, List.set_cons_zero, List.set_cons_succ]
        refine' wpAnyH_take (i := 6) (oi := { dst := some 24, op := Go.Op.extract (Go.Operand.tmp 18) 1, type := 50, pos := "ref.go:242", after := #[{ on := 4, ground := Go.Ground.data }, { on := 9, ground := Go.Ground.gcOnly Go.Departure.lateStores }], guard := none }) (v := _) rfl (by kernel_rfl) (by kernel_rfl) (by kernel_rfl) (fun _ _ _ h => h) (Or.inl ⟨by rfl, ?hy67⟩) (by assumption) ?rest67
        case hy67 => (intro w hSw; (try dsimp only at hSw); go_simp; try with_reducible rfl)
        try simp only [Act.put, List.setIfInBounds_toArray, List.set_cons_zero, List.set_cons_succ]
        refine' wpAnyH_take (i := 7) (oi := { dst := some 25, op := Go.Op.extract (Go.Operand.tmp 18) 2, type := 3, pos := "ref.go:242", after := #[{ on := 4, ground := Go.Ground.data }, { on := 10, ground := Go.Ground.gcOnly Go.Departure.lateStores }], guard := none }) (v := _) rfl (by kernel_rfl) (by kernel_rfl) (by kernel_rfl) (fun _ _ _ h => h) (Or.inl ⟨by rfl, ?hy68⟩) (by assumption) ?rest68
        case hy68 => (intro w hSw; (try dsimp only at hSw); go_simp; try with_reducible rfl)
        try simp only [Act.put, List.setIfInBounds_toArray, List.set_cons_zero, List.set_cons_succ]
        refine wpAnyH_ready (rs := [9]) (by kernel_rfl) (by simp) ?_
        refine AllReadyH.cons (o := { dst := none, op := Go.Op.store 48 (Go.Operand.tmp 3) (Go.Operand.tmp 23), type := 0, pos := "ref.go:242", after := #[{ on := 5, ground := Go.Ground.data }, { on := 3, ground := Go.Ground.chain }, { on := 0, ground := Go.Ground.phase }, { on := 1, ground := Go.Ground.phase }, { on := 2, ground := Go.Ground.phase }, { on := 3, ground := Go.Ground.phase }, { on := 4, ground := Go.Ground.phase }, { on := 5, ground := Go.Ground.phase }, { on := 6, ground := Go.Ground.textOnly Go.Departure.lateStores }, { on := 7, ground := Go.Ground.textOnly Go.Departure.lateStores }, { on := 8, ground := Go.Ground.phase }], guard := none }) rfl (fun K hK => ?_) AllReadyH.nil
        refine storeRow_step rfl 48 (.tmp 3) (.tmp 23) rfl w1.heap.size rfl ([.slice X1 y1 z1, .slice X2 y2 z2, .slice X3 y3 z3]) rfl (rp_size.trans (congrArg some rfl)) 48 [.slice A1 n1 c1, .slice A2 n2 c2, .slice A3 n3 c3] hM.p rfl rp_one ?_
        intro wE rwE owE zwE
        have hME := hM.plain owE rwE
        have hTE := hT.only owE (fun e => by have := hM.lt; omega)
        have hLE := hL.only owE (fun y e p => by have := hM.lt; omega)
        clear hM hT hL
        have hM := hME
        have hT := hTE
        have hL := hLE
        clear hME hTE hLE
        refine hK.out _ _ hM.g (fun hSx => ?_)
        clear hK K
        try simp only [Act.put]
        refine wpAnyH_ready (rs := [10]) (by kernel_rfl) (by simp) ?_
        refine AllReadyH.cons (o := { dst := none, op := Go.Op.store 50 (Go.Operand.tmp 9) (Go.Operand.tmp 24), type := 0, pos := "ref.go:242", after := #[{ on := 8, ground := Go.Ground.data }, { on := 6, ground := Go.Ground.data }, { on := 9, ground := Go.Ground.chain }, { on := 0, ground := Go.Ground.phase }, { on := 1, ground := Go.Ground.phase }, { on := 2, ground := Go.Ground.phase }, { on := 3, ground := Go.Ground.phase }, { on := 4, ground := Go.Ground.phase }, { on := 5, ground := Go.Ground.phase }, { on := 6, ground := Go.Ground.phase }, { on := 7, ground := Go.Ground.textOnly Go.Departure.lateStores }, { on := 8, ground := Go.Ground.phase }, { on := 9, ground := Go.Ground.phase }], guard := none }) rfl (fun K hK => ?_) AllReadyH.nil
        refine storeRow_step rfl 50 (.tmp 9) (.tmp 24) rfl wA.heap.size rfl (tcC (dX14 VW EW κ i u).1 (dX14 VW EW κ i u).2.1 (dX14 VW EW κ i u).2.2) rfl (rt_size.trans (congrArg some rfl)) 50 (tcC 0 0 0) hT rfl (rt_one _ _ _) ?_
        intro wF rwF owF zwF
        have hMF := hM.other owF (by omega)
        have hLF := hL.only owF (fun y e p => by omega)
        clear hM hT hL
        have hM := hMF
        have hL := hLF
        clear hMF hLF
        refine hK.out _ _ hM.g (fun hSx => ?_)
        clear hK K
        try simp only [Act.put]
        refine' wpAnyH_take (i := 11) (oi := { dst := some 10, op := Go.Op.assign (Go.Operand.tmp 25), type := 3, pos := "ref.go:242", after := #[{ on := 7, ground := Go.Ground.data }, { on := 10, ground := Go.Ground.chain }, { on := 0, ground := Go.Ground.phase }, { on := 1, ground := Go.Ground.phase }, { on := 2, ground := Go.Ground.phase }, { on := 3, ground := Go.Ground.phase }, { on := 4, ground := Go.Ground.phase }, { on := 5, ground := Go.Ground.phase }, { on := 6, ground := Go.Ground.phase }, { on := 7, ground := Go.Ground.phase }, { on := 8, ground := Go.Ground.phase }, { on := 9, ground := Go.Ground.phase }, { on := 10, ground := Go.Ground.phase }], guard := none }) (v := _) rfl (by kernel_rfl) (by kernel_rfl) (by kernel_rfl) (fun _ _ _ h => h) (Or.inl ⟨by rfl, ?hy71⟩) (by assumption) ?rest71
        case hy71 => (intro w hSw; (try dsimp only at hSw); go_simp; try with_reducible rfl)
        try simp only [Act.put, List.setIfInBounds_toArray, List.set_cons_zero, List.set_cons_succ]
        refine wpAnyH_done (by kernel_rfl) ?_ _
        have I : MidR w wF w1.heap.size w2.heap.size w3.heap.size w4.heap.size (wA.heap.size) P Pp G (.slice Af nf cf) (.slice Ao no co) (.slice Al nl cl) VN EW KN (dX14 VW EW κ i u) (.slice X1 y1 z1) (.slice X2 y2 z2) (.slice X3 y3 z3) := ⟨hM, rwF, by omega, hL, HRO.out.below hM.below⟩
        clear hM hL rwE rwF owF zwF hSx
        generalize (wA.heap.size) = gT at I ⊢
        revert I
        revert gT
        revert wF X1 y1 z1 X2 y2 z2 X3 y3 z3
        exact key.down
    · refine alloc_step rfl 50 rfl _ rt_zero ?_
      intro wB rB bB zB
      have hMB := hM.quiet bB
      have ht4 : w4.heap.size < w5.heap.size := hM.lt.2.2.2.2
      clear hM
      have hM := hMB
      clear hMB
      have hT : Row wB w5.heap.size 50 (tcC 0 0 0) := rB
      clear rB bB
      refine hK.out _ _ hM.g (fun hSx => ?_)
      clear hK K
      try simp only [Act.put, List.setIfInBounds_toArray, List.set_cons_zero, List.set_cons_succ]
      refine wpAnyH_ready (rs := [0, 2]) (by kernel_rfl) (by simp) ?_
      refine AllReadyH.cons (o := { dst := some 19, op := Go.Op.load 48 (Go.Operand.tmp 3), type := 48, pos := "ref.go:242", after := #[], guard := none }) rfl (fun K hK => ?_) (AllReadyH.cons (o := { dst := some 21, op := Go.Op.call { callee := Go.Callee.value (Go.Operand.func 36), args := #[Go.Operand.tmp 20], argTypes := #[35] }, type := 50, pos := "ref.go:242", after := #[{ on := 1, ground := Go.Ground.data }], guard := none }) rfl (fun K hK => ?_) AllReadyH.nil)
      · refine loadRow_step rfl 48 (.tmp 3) rfl w1.heap.size rfl [.slice A1 n1 c1, .slice A2 n2 c2, .slice A3 n3 c3] rp_struct (rp_size.trans (congrArg some rfl)) 48 hM.p ?_
        refine hK.out _ _ hM.g (fun hSx => ?_)
        clear hK K
        try simp only [Act.put, List.setIfInBounds_toArray, List.set_cons_zero, List.set_cons_succ]
        refine wpAnyH_ready (rs := [2]) (by kernel_rfl) (by simp) ?_
        refine AllReadyH.cons (o := { dst := some 21, op := Go.Op.call { callee := Go.Callee.value (Go.Operand.func 36), args := #[Go.Operand.tmp 20], argTypes := #[35] }, type := 50, pos := "ref.go:242", after := #[{ on := 1, ground := Go.Ground.data }], guard := none }) rfl (fun K hK => ?_) AllReadyH.nil
        go_simp
        go_at_call 36
        refine (KT.out _ hM.below).mono ?_
        rintro e wA ⟨rfl, bA⟩
        have hMA := hM.quiet bA
        have hTA := hT.below bA
        clear hM
        have hM := hMA
        clear hMA
        clear hT
        have hT := hTA
        clear hTA
        go_wp2_with fail
        refine hK.out _ _ hM.g (fun hSx => ?_)
        clear hK K
        try simp only [Act.put, List.setIfInBounds_toArray, List.set_cons_zero, List.set_cons_succ]
        refine wpAnyH_ready (rs := [3]) (by kernel_rfl) (by simp) ?_
        refine AllReadyH.cons (o := { dst := some 22, op := Go.Op.call { callee := Go.Callee.value (Go.Operand.func 35), args := #[Go.Operand.tmp 19, Go.Operand.tmp 21], argTypes := #[48, 50] }, type := 79, pos := "ref.go:242", after := #[{ on := 0, ground := Go.Ground.data }, { on := 2, ground := Go.Ground.data }, { on := 2, ground := Go.Ground.chain }], guard := none }) rfl (fun K hK => ?_) AllReadyH.nil
        go_simp
        go_at_call 35
        refine (KD.out _ hM.below).mono ?_
        rintro e wD ⟨X1, y1, z1, X2, y2, z2, X3, y3, z3, rfl, lD, bD⟩
        have hMD := hM.quiet bD
        have hs3 := hM.lt.2.2.2.2
        have hTD := hT.below bD
        have hst := hT.lt
        have hL := lD.weak (Q := fun y => (Pp y ∨ w.heap.size ≤ y) ∧ (y < w.heap.size ∨ w4.heap.size < y) ∧ y ≠ w5.heap.size) (fun y hy p => ⟨by rcases p with p | p; exact .inl p.1; exact .inr (by have := hM.below.size; omega), by rcases p with p | p <;> omega, by rcases p with p | p; have := hM.below.size; have := hM.lt; omega; omega⟩)
        clear hM lD
        have hM := hMD
        clear hMD
        clear hT
        have hT := hTD
        clear hTD
        go_wp2_with fail
        refine hK.out _ _ hM.g (fun hSx => ?_)
        clear hK K
        try simp only [Act.put, List.setIfInBounds_toArray, List.set_cons_zero, List.set_cons_succ]
        refine' wpAnyH_take (i := 4) (oi := { dst := some 18, op := Go.Op.move (Go.Operand.tmp 22), type := 79, pos := "ref.go:242", after := #[{ on := 3, ground := Go.Ground.data }], guard := none }) (v := _) rfl (by kernel_rfl) (by kernel_rfl) (by kernel_rfl) (fun _ _ _ h => h) (Or.inl ⟨by rfl, ?hy76⟩) (by assumption) ?rest76
        case hy76 => (intro w hSw; (try dsimp only at hSw); go_simp; try with_reducible rfl)
        try simp only [Act.put, List.setIfInBounds_toArray, List.set_cons_zero, List.set_cons_succ]
        refine' wpAnyH_take (i := 5) (oi := { dst := some 23, op := Go.Op.extract (Go.Operand.tmp 18) 0, type := 48, pos := "ref.go:242", after := #[{ on := 4, ground := Go.Ground.data }], guard := none }) (v := _) rfl (by kernel_rfl) (by kernel_rfl) (by kernel_rfl) (fun _ _ _ h => h) (Or.inl ⟨by rfl, ?hy77⟩) (by assumption) ?rest77
        case hy77 => (intro w hSw; (try dsimp only at hSw); go_simp; try with_reducible rfl)
        try simp only [Act.put, List.setIfInBounds_toArray, List.set_cons_zero, List.set_cons_succ]
        refine' wpAnyH_take (i := 6) (oi := { dst := some 24, op := Go.Op.extract (Go.Operand.tmp 18) 1, type := 50, pos := "ref.go:242", after := #[{ on := 4, ground := Go.Ground.data }, { on := 9, ground := Go.Ground.gcOnly Go.Departure.lateStores }], guard := none }) (v := _) rfl (by kernel_rfl) (by kernel_rfl) (by kernel_rfl) (fun _ _ _ h => h) (Or.inl ⟨by rfl, ?hy78⟩) (by assumption) ?rest78
        case hy78 => (intro w hSw; (try dsimp only at hSw); go_simp; try with_reducible rfl)
        try simp only [Act.put, List.setIfInBounds_toArray, List.set_cons_zero, List.set_cons_succ]
        refine' wpAnyH_take (i := 7) (oi := { dst := some 25, op := Go.Op.extract (Go.Operand.tmp 18) 2, type := 3, pos := "ref.go:242", after := #[{ on := 4, ground := Go.Ground.data }, { on := 10, ground := Go.Ground.gcOnly Go.Departure.lateStores }], guard := none }) (v := _) rfl (by kernel_rfl) (by kernel_rfl) (by kernel_rfl) (fun _ _ _ h => h) (Or.inl ⟨by rfl, ?hy79⟩) (by assumption) ?rest79
        case hy79 => (intro w hSw; (try dsimp only at hSw); go_simp; try with_reducible rfl)
        try simp only [Act.put, List.setIfInBounds_toArray, List.set_cons_zero, List.set_cons_succ]
        refine wpAnyH_ready (rs := [9]) (by kernel_rfl) (by simp) ?_
        refine AllReadyH.cons (o := { dst := none, op := Go.Op.store 48 (Go.Operand.tmp 3) (Go.Operand.tmp 23), type := 0, pos := "ref.go:242", after := #[{ on := 5, ground := Go.Ground.data }, { on := 3, ground := Go.Ground.chain }, { on := 0, ground := Go.Ground.phase }, { on := 1, ground := Go.Ground.phase }, { on := 2, ground := Go.Ground.phase }, { on := 3, ground := Go.Ground.phase }, { on := 4, ground := Go.Ground.phase }, { on := 5, ground := Go.Ground.phase }, { on := 6, ground := Go.Ground.textOnly Go.Departure.lateStores }, { on := 7, ground := Go.Ground.textOnly Go.Departure.lateStores }, { on := 8, ground := Go.Ground.phase }], guard := none }) rfl (fun K hK => ?_) AllReadyH.nil
        refine storeRow_step rfl 48 (.tmp 3) (.tmp 23) rfl w1.heap.size rfl ([.slice X1 y1 z1, .slice X2 y2 z2, .slice X3 y3 z3]) rfl (rp_size.trans (congrArg some rfl)) 48 [.slice A1 n1 c1, .slice A2 n2 c2, .slice A3 n3 c3] hM.p rfl rp_one ?_
        intro wE rwE owE zwE
        have hME := hM.plain owE rwE
        have hTE := hT.only owE (fun e => by have := hM.lt; omega)
        have hLE := hL.only owE (fun y e p => by have := hM.lt; omega)
        clear hM hT hL
        have hM := hME
        have hT := hTE
        have hL := hLE
        clear hME hTE hLE
        refine hK.out _ _ hM.g (fun hSx => ?_)
        clear hK K
        try simp only [Act.put]
        refine wpAnyH_ready (rs := [10]) (by kernel_rfl) (by simp) ?_
        refine AllReadyH.cons (o := { dst := none, op := Go.Op.store 50 (Go.Operand.tmp 9) (Go.Operand.tmp 24), type := 0, pos := "ref.go:242", after := #[{ on := 8, ground := Go.Ground.data }, { on := 6, ground := Go.Ground.data }, { on := 9, ground := Go.Ground.chain }, { on := 0, ground := Go.Ground.phase }, { on := 1, ground := Go.Ground.phase }, { on := 2, ground := Go.Ground.phase }, { on := 3, ground := Go.Ground.phase }, { on := 4, ground := Go.Ground.phase }, { on := 5, ground := Go.Ground.phase }, { on := 6, ground := Go.Ground.phase }, { on := 7, ground := Go.Ground.textOnly Go.Departure.lateStores }, { on := 8, ground := Go.Ground.phase }, { on := 9, ground := Go.Ground.phase }], guard := none }) rfl (fun K hK => ?_) AllReadyH.nil
        refine storeRow_step rfl 50 (.tmp 9) (.tmp 24) rfl w5.heap.size rfl (tcC (dX14 VW EW κ i u).1 (dX14 VW EW κ i u).2.1 (dX14 VW EW κ i u).2.2) rfl (rt_size.trans (congrArg some rfl)) 50 (tcC 0 0 0) hT rfl (rt_one _ _ _) ?_
        intro wF rwF owF zwF
        have hMF := hM.other owF (by omega)
        have hLF := hL.only owF (fun y e p => by omega)
        clear hM hT hL
        have hM := hMF
        have hL := hLF
        clear hMF hLF
        refine hK.out _ _ hM.g (fun hSx => ?_)
        clear hK K
        try simp only [Act.put]
        refine' wpAnyH_take (i := 11) (oi := { dst := some 10, op := Go.Op.assign (Go.Operand.tmp 25), type := 3, pos := "ref.go:242", after := #[{ on := 7, ground := Go.Ground.data }, { on := 10, ground := Go.Ground.chain }, { on := 0, ground := Go.Ground.phase }, { on := 1, ground := Go.Ground.phase }, { on := 2, ground := Go.Ground.phase }, { on := 3, ground := Go.Ground.phase }, { on := 4, ground := Go.Ground.phase }, { on := 5, ground := Go.Ground.phase }, { on := 6, ground := Go.Ground.phase }, { on := 7, ground := Go.Ground.phase }, { on := 8, ground := Go.Ground.phase }, { on := 9, ground := Go.Ground.phase }, { on := 10, ground := Go.Ground.phase }], guard := none }) (v := _) rfl (by kernel_rfl) (by kernel_rfl) (by kernel_rfl) (fun _ _ _ h => h) (Or.inl ⟨by rfl, ?hy82⟩) (by assumption) ?rest82
        case hy82 => (intro w hSw; (try dsimp only at hSw); go_simp; try with_reducible rfl)
        try simp only [Act.put, List.setIfInBounds_toArray, List.set_cons_zero, List.set_cons_succ]
        refine wpAnyH_done (by kernel_rfl) ?_ _
        have I : MidR w wF w1.heap.size w2.heap.size w3.heap.size w4.heap.size (w5.heap.size) P Pp G (.slice Af nf cf) (.slice Ao no co) (.slice Al nl cl) VN EW KN (dX14 VW EW κ i u) (.slice X1 y1 z1) (.slice X2 y2 z2) (.slice X3 y3 z3) := ⟨hM, rwF, by omega, hL, HRO.out.below hM.below⟩
        clear hM hL rwE rwF owF zwF hSx
        generalize (w5.heap.size) = gT at I ⊢
        revert I
        revert gT
        revert wF X1 y1 z1 X2 y2 z2 X3 y3 z3
        exact key.down
      · go_simp
        go_at_call 36
        refine (KT.out _ hM.below).mono ?_
        rintro e wA ⟨rfl, bA⟩
        have hMA := hM.quiet bA
        have hTA := hT.below bA
        clear hM
        have hM := hMA
        clear hMA
        clear hT
        have hT := hTA
        clear hTA
        go_wp2_with fail
        refine hK.out _ _ hM.g (fun hSx => ?_)
        clear hK K
        try simp only [Act.put, List.setIfInBounds_toArray, List.set_cons_zero, List.set_cons_succ]
        refine wpAnyH_ready (rs := [0]) (by kernel_rfl) (by simp) ?_
        refine AllReadyH.cons (o := { dst := some 19, op := Go.Op.load 48 (Go.Operand.tmp 3), type := 48, pos := "ref.go:242", after := #[], guard := none }) rfl (fun K hK => ?_) AllReadyH.nil
        refine loadRow_step rfl 48 (.tmp 3) rfl w1.heap.size rfl [.slice A1 n1 c1, .slice A2 n2 c2, .slice A3 n3 c3] rp_struct (rp_size.trans (congrArg some rfl)) 48 hM.p ?_
        refine hK.out _ _ hM.g (fun hSx => ?_)
        clear hK K
        try simp only [Act.put, List.setIfInBounds_toArray, List.set_cons_zero, List.set_cons_succ]
        refine wpAnyH_ready (rs := [3]) (by kernel_rfl) (by simp) ?_
        refine AllReadyH.cons (o := { dst := some 22, op := Go.Op.call { callee := Go.Callee.value (Go.Operand.func 35), args := #[Go.Operand.tmp 19, Go.Operand.tmp 21], argTypes := #[48, 50] }, type := 79, pos := "ref.go:242", after := #[{ on := 0, ground := Go.Ground.data }, { on := 2, ground := Go.Ground.data }, { on := 2, ground := Go.Ground.chain }], guard := none }) rfl (fun K hK => ?_) AllReadyH.nil
        go_simp
        go_at_call 35
        refine (KD.out _ hM.below).mono ?_
        rintro e wD ⟨X1, y1, z1, X2, y2, z2, X3, y3, z3, rfl, lD, bD⟩
        have hMD := hM.quiet bD
        have hs3 := hM.lt.2.2.2.2
        have hTD := hT.below bD
        have hst := hT.lt
        have hL := lD.weak (Q := fun y => (Pp y ∨ w.heap.size ≤ y) ∧ (y < w.heap.size ∨ w4.heap.size < y) ∧ y ≠ w5.heap.size) (fun y hy p => ⟨by rcases p with p | p; exact .inl p.1; exact .inr (by have := hM.below.size; omega), by rcases p with p | p <;> omega, by rcases p with p | p; have := hM.below.size; have := hM.lt; omega; omega⟩)
        clear hM lD
        have hM := hMD
        clear hMD
        clear hT
        have hT := hTD
        clear hTD
        go_wp2_with fail
        refine hK.out _ _ hM.g (fun hSx => ?_)
        clear hK K
        try simp only [Act.put, List.setIfInBounds_toArray, List.set_cons_zero, List.set_cons_succ]
        refine' wpAnyH_take (i := 4) (oi := { dst := some 18, op := Go.Op.move (Go.Operand.tmp 22), type := 79, pos := "ref.go:242", after := #[{ on := 3, ground := Go.Ground.data }], guard := none }) (v := _) rfl (by kernel_rfl) (by kernel_rfl) (by kernel_rfl) (fun _ _ _ h => h) (Or.inl ⟨by rfl, ?hy85⟩) (by assumption) ?rest85
        case hy85 => (intro w hSw; (try dsimp only at hSw); go_simp; try with_reducible rfl)
        try simp only [Act.put, List.setIfInBounds_toArray, List.set_cons_zero, List.set_cons_succ]
        refine' wpAnyH_take (i := 5) (oi := { dst := some 23, op := Go.Op.extract (Go.Operand.tmp 18) 0, type := 48, pos := "ref.go:242", after := #[{ on := 4, ground := Go.Ground.data }], guard := none }) (v := _) rfl (by kernel_rfl) (by kernel_rfl) (by kernel_rfl) (fun _ _ _ h => h) (Or.inl ⟨by rfl, ?hy86⟩) (by assumption) ?rest86
        case hy86 => (intro w hSw; (try dsimp only at hSw); go_simp; try with_reducible rfl)
        try simp only [Act.put, List.setIfInBounds_toArray, List.set_cons_zero, List.set_cons_succ]
        refine' wpAnyH_take (i := 6) (oi := { dst := some 24, op := Go.Op.extract (Go.Operand.tmp 18) 1, type := 50, pos := "ref.go:242", after := #[{ on := 4, ground := Go.Ground.data }, { on := 9, ground := Go.Ground.gcOnly Go.Departure.lateStores }], guard := none }) (v := _) rfl (by kernel_rfl) (by kernel_rfl) (by kernel_rfl) (fun _ _ _ h => h) (Or.inl ⟨by rfl, ?hy87⟩) (by assumption) ?rest87
        case hy87 => (intro w hSw; (try dsimp only at hSw); go_simp; try with_reducible rfl)
        try simp only [Act.put, List.setIfInBounds_toArray, List.set_cons_zero, List.set_cons_succ]
        refine' wpAnyH_take (i := 7) (oi := { dst := some 25, op := Go.Op.extract (Go.Operand.tmp 18) 2, type := 3, pos := "ref.go:242", after := #[{ on := 4, ground := Go.Ground.data }, { on := 10, ground := Go.Ground.gcOnly Go.Departure.lateStores }], guard := none }) (v := _) rfl (by kernel_rfl) (by kernel_rfl) (by kernel_rfl) (fun _ _ _ h => h) (Or.inl ⟨by rfl, ?hy88⟩) (by assumption) ?rest88
        case hy88 => (intro w hSw; (try dsimp only at hSw); go_simp; try with_reducible rfl)
        try simp only [Act.put, List.setIfInBounds_toArray, List.set_cons_zero, List.set_cons_succ]
        refine wpAnyH_ready (rs := [9]) (by kernel_rfl) (by simp) ?_
        refine AllReadyH.cons (o := { dst := none, op := Go.Op.store 48 (Go.Operand.tmp 3) (Go.Operand.tmp 23), type := 0, pos := "ref.go:242", after := #[{ on := 5, ground := Go.Ground.data }, { on := 3, ground := Go.Ground.chain }, { on := 0, ground := Go.Ground.phase }, { on := 1, ground := Go.Ground.phase }, { on := 2, ground := Go.Ground.phase }, { on := 3, ground := Go.Ground.phase }, { on := 4, ground := Go.Ground.phase }, { on := 5, ground := Go.Ground.phase }, { on := 6, ground := Go.Ground.textOnly Go.Departure.lateStores }, { on := 7, ground := Go.Ground.textOnly Go.Departure.lateStores }, { on := 8, ground := Go.Ground.phase }], guard := none }) rfl (fun K hK => ?_) AllReadyH.nil
        refine storeRow_step rfl 48 (.tmp 3) (.tmp 23) rfl w1.heap.size rfl ([.slice X1 y1 z1, .slice X2 y2 z2, .slice X3 y3 z3]) rfl (rp_size.trans (congrArg some rfl)) 48 [.slice A1 n1 c1, .slice A2 n2 c2, .slice A3 n3 c3] hM.p rfl rp_one ?_
        intro wE rwE owE zwE
        have hME := hM.plain owE rwE
        have hTE := hT.only owE (fun e => by have := hM.lt; omega)
        have hLE := hL.only owE (fun y e p => by have := hM.lt; omega)
        clear hM hT hL
        have hM := hME
        have hT := hTE
        have hL := hLE
        clear hME hTE hLE
        refine hK.out _ _ hM.g (fun hSx => ?_)
        clear hK K
        try simp only [Act.put]
        refine wpAnyH_ready (rs := [10]) (by kernel_rfl) (by simp) ?_
        refine AllReadyH.cons (o := { dst := none, op := Go.Op.store 50 (Go.Operand.tmp 9) (Go.Operand.tmp 24), type := 0, pos := "ref.go:242", after := #[{ on := 8, ground := Go.Ground.data }, { on := 6, ground := Go.Ground.data }, { on := 9, ground := Go.Ground.chain }, { on := 0, ground := Go.Ground.phase }, { on := 1, ground := Go.Ground.phase }, { on := 2, ground := Go.Ground.phase }, { on := 3, ground := Go.Ground.phase }, { on := 4, ground := Go.Ground.phase }, { on := 5, ground := Go.Ground.phase }, { on := 6, ground := Go.Ground.phase }, { on := 7, ground := Go.Ground.textOnly Go.Departure.lateStores }, { on := 8, ground := Go.Ground.phase }, { on := 9, ground := Go.Ground.phase }], guard := none }) rfl (fun K hK => ?_) AllReadyH.nil
        refine storeRow_step rfl 50 (.tmp 9) (.tmp 24) rfl w5.heap.size rfl (tcC (dX14 VW EW κ i u).1 (dX14 VW EW κ i u).2.1 (dX14 VW EW κ i u).2.2) rfl (rt_size.trans (congrArg some rfl)) 50 (tcC 0 0 0) hT rfl (rt_one _ _ _) ?_
        intro wF rwF owF zwF
        have hMF := hM.other owF (by omega)
        have hLF := hL.only owF (fun y e p => by omega)
        clear hM hT hL
        have hM := hMF
        have hL := hLF
        clear hMF hLF
        refine hK.out _ _ hM.g (fun hSx => ?_)
        clear hK K
        try simp only [Act.put]
        refine' wpAnyH_take (i := 11) (oi := { dst := some 10, op := Go.Op.assign (Go.Operand.tmp 25), type := 3, pos := "ref.go:242", after := #[{ on := 7, ground := Go.Ground.data }, { on := 10, ground := Go.Ground.chain }, { on := 0, ground := Go.Ground.phase }, { on := 1, ground := Go.Ground.phase }, { on := 2, ground := Go.Ground.phase }, { on := 3, ground := Go.Ground.phase }, { on := 4, ground := Go.Ground.phase }, { on := 5, ground := Go.Ground.phase }, { on := 6, ground := Go.Ground.phase }, { on := 7, ground := Go.Ground.phase }, { on := 8, ground := Go.Ground.phase }, { on := 9, ground := Go.Ground.phase }, { on := 10, ground := Go.Ground.phase }], guard := none }) (v := _) rfl (by kernel_rfl) (by kernel_rfl) (by kernel_rfl) (fun _ _ _ h => h) (Or.inl ⟨by rfl, ?hy91⟩) (by assumption) ?rest91
        case hy91 => (intro w hSw; (try dsimp only at hSw); go_simp; try with_reducible rfl)
        try simp only [Act.put, List.setIfInBounds_toArray, List.set_cons_zero, List.set_cons_succ]
        refine wpAnyH_done (by kernel_rfl) ?_ _
        have I : MidR w wF w1.heap.size w2.heap.size w3.heap.size w4.heap.size (w5.heap.size) P Pp G (.slice Af nf cf) (.slice Ao no co) (.slice Al nl cl) VN EW KN (dX14 VW EW κ i u) (.slice X1 y1 z1) (.slice X2 y2 z2) (.slice X3 y3 z3) := ⟨hM, rwF, by omega, hL, HRO.out.below hM.below⟩
        clear hM hL rwE rwF owF zwF hSx
        generalize (w5.heap.size) = gT at I ⊢
        revert I
        revert gT
        revert wF X1 y1 z1 X2 y2 z2 X3 y3 z3
        exact key.down
  intro X1 y1 z1 X2 y2 z2 X3 y3 z3 w9 gT I0
  clear hM0
  have I := Lib.hid I0
  clear I0
  have KB := Lib.hid (KA.out _ I.out.gl)
  go_wp2_with (first
    | (with_reducible refine loadRow_walk rfl 35 (.tmp 2) rfl w.heap.size rfl (rvC G (.slice Af nf cf) (.slice Ao no co) (.slice Al nl cl)) rv_struct (HSZ.out _ _ _ _) 35 I.out.st.g ?_)
    | (go_at_call 37; refine KB.out.mono ?_; rintro e w10 ⟨Af2, nf2, cf2, Ao2, no2, co2, Al2, nl2, cl2, rfl, l10, b10⟩; have L10 := Lib.hid l10; have M10 := Lib.hid (I.out.st.quiet b10); have T10 := Lib.hid (I.out.tr.below b10); have P10 := Lib.hid (I.out.pl.below b10); have S10 := Lib.hid b10.size; clear l10 b10)
    | ((with_reducible refine storeRow_walk rfl 35 (.tmp 2) (.tmp 30) rfl w.heap.size rfl (rvC (raN G H.R n).1 (.slice Af2 nf2 cf2) (.slice Ao2 no2 co2) (.slice Al2 nl2 cl2)) rfl (HSZ.out _ _ _ _) 35 _ M10.out.g rfl (rv_one _) ?_); intro w11 r11 o11 z11; have M11 := Lib.hid (M10.out.giver o11 r11); have T11 := Lib.hid (T10.out.only o11 (fun e => by have := M10.out.lt; have := I.out.lt; omega)); have P11 := Lib.hid (P10.out.only o11 (fun y e p => by have := M10.out.lt; omega)); have L11 := Lib.hid (L10.out.only o11 (fun y e p => by have := I.out.st.lt; rcases p with p | p <;> omega)); have HGT := Lib.hid I.out.lt; have HS11 := Lib.hid I.out.st.lt; clear r11 o11 z11))
  have hM : StR w w11.drew w1.heap.size w2.heap.size w3.heap.size w4.heap.size (raN G H.R n).1 (.slice Af2 nf2 cf2) (.slice Ao2 no2 co2) (.slice Al2 nl2 cl2) [.slice X1 y1 z1, .slice X2 y2 z2, .slice X3 y3 z3] := M11.out.quiet (below_q w11 1)
  have hT : Row w11.drew gT 50 (tcC (dX14 VW EW κ i u).1 (dX14 VW EW κ i u).2.1 (dX14 VW EW κ i u).2.2) := T11.out
  have hgt := HGT.out
  refine wp_region_held_drew (S := fun W => Row W w.heap.size 35 (rvC (raN G H.R n).1 (.slice Af2 nf2 cf2) (.slice Ao2 no2 co2) (.slice Al2 nl2 cl2)) ∧ Row W w1.heap.size 48 [.slice X1 y1 z1, .slice X2 y2 z2, .slice X3 y3 z3] ∧ Row W gT 50 (tcC (dX14 VW EW κ i u).1 (dX14 VW EW κ i u).2.1 (dX14 VW EW κ i u).2.2)) (by kernel_rfl) ⟨hM.g, hM.p, hT⟩ (fun hHeld => ?_)
  refine wpAnyH_take (i := 0) (oi := { dst := some 37, op := Go.Op.load 35 (Go.Operand.tmp 2), type := 35, pos := "ref.go:247", after := #[], guard := none }) (v := .agg (rvC (raN G H.R n).1 (.slice Af2 nf2 cf2) (.slice Ao2 no2 co2) (.slice Al2 nl2 cl2)).toArray) rfl (by kernel_rfl) (by kernel_rfl) (by kernel_rfl) (fun _ _ _ h => h) (yieldsIf_row rfl 35 (.tmp 2) rfl w.heap.size rfl (rvC (raN G H.R n).1 (.slice Af2 nf2 cf2) (.slice Ao2 no2 co2) (.slice Al2 nl2 cl2)) rv_struct (HSZ.out _ _ _ _) 35 (fun W h => h.1)) (by assumption) ?_
  try simp only [Act.put, List.setIfInBounds_toArray, List.set_cons_zero, List.set_cons_succ]
  refine wpAnyH_take (i := 1) (oi := { dst := some 38, op := Go.Op.load 48 (Go.Operand.tmp 3), type := 48, pos := "ref.go:247", after := #[{ on := 4, ground := Go.Ground.gcOnly Go.Departure.lateStores }], guard := none }) (v := .agg ([.slice X1 y1 z1, .slice X2 y2 z2, .slice X3 y3 z3]).toArray) rfl (by kernel_rfl) (by kernel_rfl) (by kernel_rfl) (fun _ _ _ h => h) (yieldsIf_row rfl 48 (.tmp 3) rfl w1.heap.size rfl ([.slice X1 y1 z1, .slice X2 y2 z2, .slice X3 y3 z3]) rp_struct (rp_size.trans (congrArg some rfl)) 48 (fun W h => h.2.1)) (by assumption) ?_
  try simp only [Act.put, List.setIfInBounds_toArray, List.set_cons_zero, List.set_cons_succ]
  refine wpAnyH_take (i := 2) (oi := { dst := some 39, op := Go.Op.load 50 (Go.Operand.tmp 9), type := 50, pos := "ref.go:247", after := #[{ on := 5, ground := Go.Ground.gcOnly Go.Departure.lateStores }], guard := none }) (v := .agg (tcC (dX14 VW EW κ i u).1 (dX14 VW EW κ i u).2.1 (dX14 VW EW κ i u).2.2).toArray) rfl (by kernel_rfl) (by kernel_rfl) (by kernel_rfl) (fun _ _ _ h => h) (yieldsIf_row rfl 50 (.tmp 9) rfl gT rfl (tcC (dX14 VW EW κ i u).1 (dX14 VW EW κ i u).2.1 (dX14 VW EW κ i u).2.2) rt_struct (rt_size.trans (congrArg some rfl)) 50 (fun W h => h.2.2)) (by assumption) ?_
  try simp only [Act.put, List.setIfInBounds_toArray, List.set_cons_zero, List.set_cons_succ]
  refine' wpAnyH_take (i := 3) (oi := { dst := some 40, op := Go.Op.move (Go.Operand.tmp 11), type := 3, pos := "ref.go:247", after := #[{ on := 7, ground := Go.Ground.gcOnly Go.Departure.lateStores }], guard := none }) (v := _) rfl (by kernel_rfl) (by kernel_rfl) (by kernel_rfl) (fun _ _ _ h => h) (Or.inl ⟨by rfl, ?hy103⟩) (by assumption) ?rest103
  case hy103 => (intro w hSw; (try dsimp only at hSw); go_simp; try with_reducible rfl)
  try simp only [Act.put, List.setIfInBounds_toArray, List.set_cons_zero, List.set_cons_succ]
  refine wpAnyH_ready (rs := [4]) (by kernel_rfl) (by simp) ?_
  refine AllReadyH.cons (o := { dst := none, op := Go.Op.store 35 (Go.Operand.tmp 4) (Go.Operand.tmp 37), type := 0, pos := "ref.go:247", after := #[{ on := 0, ground := Go.Ground.data }, { on := 0, ground := Go.Ground.phase }, { on := 1, ground := Go.Ground.textOnly Go.Departure.lateStores }, { on := 2, ground := Go.Ground.textOnly Go.Departure.lateStores }, { on := 3, ground := Go.Ground.textOnly Go.Departure.lateStores }], guard := none }) rfl (fun K hK => ?_) AllReadyH.nil
  refine storeRow_step rfl 35 (.tmp 4) (.tmp 37) rfl w2.heap.size rfl (rvC (raN G H.R n).1 (.slice Af2 nf2 cf2) (.slice Ao2 no2 co2) (.slice Al2 nl2 cl2)) rfl (HSZ.out _ _ _ _) 35 rvZ hM.rg rfl (rv_one _) ?_
  intro w6 rw6 ow6 zw6
  have g6 := hM.g.only ow6 (fun e => by have := hM.lt; omega)
  have p6 := hM.p.only ow6 (fun e => by have := hM.lt; omega)
  have t6 := hT.only ow6 (fun e => by have := hM.lt; omega)
  have x6 := hM.rp.only ow6 (fun e => by have := hM.lt; omega)
  have y6 := hM.rt.only ow6 (fun e => by have := hM.lt; omega)
  refine hK.out _ _ ⟨g6, p6, t6⟩ (fun hSx => ?_)
  clear hK K
  try simp only [Act.put]
  refine wpAnyH_ready (rs := [5]) (by kernel_rfl) (by simp) ?_
  refine AllReadyH.cons (o := { dst := none, op := Go.Op.store 48 (Go.Operand.tmp 5) (Go.Operand.tmp 38), type := 0, pos := "ref.go:247", after := #[{ on := 1, ground := Go.Ground.data }, { on := 4, ground := Go.Ground.chain }, { on := 0, ground := Go.Ground.phase }, { on := 1, ground := Go.Ground.phase }, { on := 2, ground := Go.Ground.textOnly Go.Departure.lateStores }, { on := 3, ground := Go.Ground.textOnly Go.Departure.lateStores }, { on := 4, ground := Go.Ground.phase }], guard := none }) rfl (fun K hK => ?_) AllReadyH.nil
  refine storeRow_step rfl 48 (.tmp 5) (.tmp 38) rfl w3.heap.size rfl ([.slice X1 y1 z1, .slice X2 y2 z2, .slice X3 y3 z3]) rfl (rp_size.trans (congrArg some rfl)) 48 plZ x6 rfl rp_one ?_
  intro w7 rw7 ow7 zw7
  have g7 := g6.only ow7 (fun e => by have := hM.lt; omega)
  have p7 := p6.only ow7 (fun e => by have := hM.lt; omega)
  have t7 := t6.only ow7 (fun e => by have := hM.lt; omega)
  have x7 := rw6.only ow7 (fun e => by have := hM.lt; omega)
  have y7 := y6.only ow7 (fun e => by have := hM.lt; omega)
  refine hK.out _ _ ⟨g7, p7, t7⟩ (fun hSx => ?_)
  clear hK K
  try simp only [Act.put]
  refine wpAnyH_ready (rs := [6]) (by kernel_rfl) (by simp) ?_
  refine AllReadyH.cons (o := { dst := none, op := Go.Op.store 50 (Go.Operand.tmp 6) (Go.Operand.tmp 39), type := 0, pos := "ref.go:247", after := #[{ on := 2, ground := Go.Ground.data }, { on := 5, ground := Go.Ground.chain }, { on := 0, ground := Go.Ground.phase }, { on := 1, ground := Go.Ground.phase }, { on := 2, ground := Go.Ground.phase }, { on := 3, ground := Go.Ground.textOnly Go.Departure.lateStores }, { on := 4, ground := Go.Ground.phase }, { on := 5, ground := Go.Ground.phase }], guard := none }) rfl (fun K hK => ?_) AllReadyH.nil
  refine storeRow_step rfl 50 (.tmp 6) (.tmp 39) rfl w4.heap.size rfl (tcC (dX14 VW EW κ i u).1 (dX14 VW EW κ i u).2.1 (dX14 VW EW κ i u).2.2) rfl (rt_size.trans (congrArg some rfl)) 50 (tcC 0 0 0) y7 rfl (rt_one _ _ _) ?_
  intro w8 rw8 ow8 zw8
  have g8 := g7.only ow8 (fun e => by have := hM.lt; omega)
  have p8 := p7.only ow8 (fun e => by have := hM.lt; omega)
  have t8 := t7.only ow8 (fun e => by have := hM.lt; omega)
  have x8 := x7.only ow8 (fun e => by have := hM.lt; omega)
  have z8 := rw7.only ow8 (fun e => by have := hM.lt; omega)
  refine hK.out _ _ ⟨g8, p8, t8⟩ (fun hSx => ?_)
  clear hK K
  try simp only [Act.put]
  refine' wpAnyH_take (i := 7) (oi := { dst := some 7, op := Go.Op.assign (Go.Operand.const (Go.Value.bool true)), type := 4, pos := "ref.go:247", after := #[{ on := 6, ground := Go.Ground.chain }, { on := 0, ground := Go.Ground.phase }, { on := 1, ground := Go.Ground.phase }, { on := 2, ground := Go.Ground.phase }, { on := 3, ground := Go.Ground.textOnly Go.Departure.lateStores }, { on := 4, ground := Go.Ground.phase }, { on := 5, ground := Go.Ground.phase }, { on := 6, ground := Go.Ground.phase }], guard := none }) (v := _) rfl (by kernel_rfl) (by kernel_rfl) (by kernel_rfl) (fun _ _ _ h => h) (Or.inl ⟨by rfl, ?hy107⟩) (by assumption) ?rest107
  case hy107 => (intro w hSw; (try dsimp only at hSw); go_simp; try with_reducible rfl)
  try simp only [Act.put, List.setIfInBounds_toArray, List.set_cons_zero, List.set_cons_succ]
  refine' wpAnyH_take (i := 8) (oi := { dst := some 8, op := Go.Op.assign (Go.Operand.tmp 40), type := 3, pos := "ref.go:247", after := #[{ on := 3, ground := Go.Ground.data }, { on := 7, ground := Go.Ground.chain }, { on := 0, ground := Go.Ground.phase }, { on := 1, ground := Go.Ground.phase }, { on := 2, ground := Go.Ground.phase }, { on := 3, ground := Go.Ground.phase }, { on := 4, ground := Go.Ground.phase }, { on := 5, ground := Go.Ground.phase }, { on := 6, ground := Go.Ground.phase }, { on := 7, ground := Go.Ground.phase }], guard := none }) (v := _) rfl (by kernel_rfl) (by kernel_rfl) (by kernel_rfl) (fun _ _ _ h => h) (Or.inl ⟨by rfl, ?hy108⟩) (by assumption) ?rest108
  case hy108 => (intro w hSw; (try dsimp only at hSw); go_simp; try with_reducible rfl)
  try simp only [Act.put, List.setIfInBounds_toArray, List.set_cons_zero, List.set_cons_succ]
  refine wpAnyH_done (by kernel_rfl) ?_ _
  have OO : Only (fun y => y = w2.heap.size ∨ y = w3.heap.size ∨ y = w4.heap.size) w11.drew w8 := ((ow6.mono (fun y _ e => .inl e)).trans (ow7.mono (fun y _ e => .inr (.inl e)))).trans (ow8.mono (fun y _ e => .inr (.inr e)))
  have BE : Below w.heap.size w w8 := Only.below hM.below OO hM.below.size (fun y hy e => by have := hM.lt; omega)
  have LE := (show RvL w11.drew _ _ _ _ _ from L11.out.below (below_q w11 1)).only OO (fun y e p => by have := hM.lt; have := HS11.out; rcases p with p | p <;> omega)
  have PE := (show RPl14 w11.drew _ _ _ _ _ _ _ from P11.out.below (below_q w11 1)).only OO (fun y e p => by have := hM.lt; omega)
  go_wp2
  exact bodyPost_ret (rstep_results Tryd.results14 rfl rfl rfl rfl rfl x8 z8 rw8) rfl ⟨_, _, _, _, _, _, _, _, _, _, _, _, _, _, _, _, _, _, rfl, LE.weak (fun y _ p => by rcases p with p | p; exact .inl p.1; exact .inr (by have := HS11.out; omega)), PE.weak (fun y _ p => p.1), BE⟩
end
end

section
open Go.ChangeShapes Go.WideShapes Go.ChangeAt Go.RowKit
section
variable {Af Ao Al : Option Addr} {nf cf no co nl cl : Nat}
set_option maxRecDepth 100000 in
set_option maxHeartbeats 2000000 in
theorem rsend_none (G : Rv) (A : Option Addr) (c : Nat) (w : World) (hcap : CapOk (.slice A 0 c)) (h : G.at_ = 0) :
    Calls Tryd.prog 11 #[rvV G (.slice Af nf cf) (.slice Ao no co) (.slice Al nl cl), .slice A 0 c] w fun e w' => ∃ A' c', e = .returned (.tuple #[rvV { G with load := [], at_ := 1 } (.slice Af nf cf) (.slice Ao no co) (.slice A' 0 c'), .int .i64 0]) ∧ w'.ownsRow w.heap.size 3 1 (.slice A' 0 c') 0 (ints []) ∧ Below w.heap.size w w' := by
  obtain ⟨i0, hi0, hz0, hz1, hz2⟩ := info_parts int_info
  have HSZ := Lib.hid (fun (H : Rv) (a b c : Value) => (rv_size.trans (congrArg some (rv_len H a b c).symm)))
  have HC := Lib.hid hcap
  have H1 := Lib.hid h
  clear h hcap
  unfold rvV
  go_enter Tryd.func11, Tryd.ntmps11
  go_wp2_with (first
    | ((with_reducible refine box_walk rfl 35 (.tmp 0) rfl (rvC G (.slice Af nf cf) (.slice Ao no co) (.slice Al nl cl)) rfl ?_); intro w1 r1 b1 z1; have R1 := Lib.hid r1; have B1 := Lib.hid b1; have hlt1 := r1.lt; clear r1 b1 z1)
    | ((with_reducible refine alloc_walk (o := ⟨some 4, _, _, _, _, _⟩) rfl 35 rfl _ rv_zero ?_); go_must (intro w2 r2 b2 z2; have R2 := Lib.hid (R1.out.below b2); have Q2 := Lib.hid r2; have B2 := Lib.hid (below_on B1.out b2); have Z2 := Lib.hid z2; have c11 := R2.out.cell 11; simp only [rvC, List.getElem?_cons_zero, List.getElem?_cons_succ] at c11; rw [H1.out] at c11; clear r2 b2 z2)))
  clear c11
  go_loopw [6] (fun iv wr => iv = .int .i64 0 ∧ w2 = wr) (fun iv _ => 1)
  case atStart => exact ⟨rfl, rfl⟩
  case round =>
    obtain ⟨rfl, rfl⟩ := hrel
    have hs2 := Z2.out
    have hs1 := B1.out.size
    go_wp2_with (first
      | (at_builtin; (refine app_walk _ rfl (.tmp 35) (.tmp 36) 33 rfl w2.heap.size 3 i0 _ 8 Tryd.underlying33 hi0 hz0 hz1 hz2 rfl (.slice none 0 0) 0 [] rfl (World.ownsRow_nil _ _ _ _) (fun _ => True) A 0 c [] rfl ⟨A, c, rfl, fun h => absurd h (by simp)⟩ HC.out (by simp) (by unfold maxLen; omega) (by omega) (by simp) ?_); go_must (intro v3 w3 hown3 hg3 hat3; rw [Nat.zero_add, List.nil_append] at hown3; obtain ⟨A', cap', rfl⟩ := own_open14 hown3; have o3 : Only (fun x => (Value.slice none 0 0).ownBlock = some x) w2 w3 := Only.of_own hg3; have R3 := Lib.hid (R2.out.only o3 (fun e => by cases e)); have Q3 := Lib.hid (Q2.out.only o3 (fun e => by cases e)); have B3 : Hid (Below w2.heap.size w2 w3) := Lib.hid (Only.below (Below.refl _ _) o3 (Nat.le_refl _) (fun x hx e => by cases e)); have O3 := Lib.hid hown3; have c11 := R3.out.cell 11; have f11 := R3.out.soft 11; have c16 := R3.out.cell 16; have f16 := R3.out.soft 16; simp only [rvC, List.getElem?_cons_zero, List.getElem?_cons_succ] at c11 c16; have R5 : Hid (Row ((w3.setCell ⟨w.heap.size, 16, none⟩ (.slice A' 0 cap')).setCell ⟨w.heap.size, 11, none⟩ (.int .i64 1)) w.heap.size 35 (rvC { G with load := [], at_ := 1 } (.slice Af nf cf) (.slice Ao no co) (.slice A' 0 cap'))) := Lib.hid ((R3.out.put 16 (.slice A' 0 cap')).put 11 (.int .i64 1)); have Q5 := Lib.hid ((Q3.out.far (p := ⟨w.heap.size, 16, none⟩) (Nat.ne_of_gt hlt1) (.slice A' 0 cap')).far (p := ⟨w.heap.size, 11, none⟩) (Nat.ne_of_gt hlt1) (.int .i64 1)); clear hown3 hg3 hat3 o3))
      | (with_reducible refine loadRow_walk rfl 35 (.tmp 2) rfl w.heap.size rfl (rvC { G with load := [], at_ := 1 } (.slice Af nf cf) (.slice Ao no co) (.slice A' 0 cap')) rv_struct (HSZ.out _ _ _ _) 35 R5.out ?_)
      | ((with_reducible refine storeRow_walk rfl 35 (.tmp 4) (.tmp 41) rfl w1.heap.size rfl (rvC { G with load := [], at_ := 1 } (.slice Af nf cf) (.slice Ao no co) (.slice A' 0 cap')) rfl (HSZ.out _ _ _ _) 35 rvZ Q5.out rfl (rv_one _) ?_); intro w4 r4 o4 z4; have R4 := Lib.hid r4; have N4 := Lib.hid o4; clear r4 o4 z4))
    have NN : Only (fun x => x = w.heap.size ∨ x = w1.heap.size) w3 w4 := (((Only.refl (fun x => x = w.heap.size ∨ x = w1.heap.size) w3).setCell (p := ⟨w.heap.size, 16, none⟩) (.inl (.inl rfl)) _).setCell (p := ⟨w.heap.size, 11, none⟩) (.inl (.inl rfl)) _).trans (N4.out.mono (fun x _ e => .inr e))
    have s3 := B3.out.size
    exact bodyPost_ret (rv_results2 Tryd.results11 rfl rfl R4.out) rfl ⟨_, _, rfl, own_rebase16 (own_quiet O3.out (fun x hx => NN.block x (O3.out.lt x hx).2 (fun e => by have := (O3.out.lt x hx).1; omega))) (by omega), Only.below (below_on B2.out B3.out) NN (by omega) (fun x hx e => by omega)⟩
/-- The first word that may not be sent. -/
theorem bad16_first : ∀ {l : List Int}, l.all okW = false → ∃ (k : Nat) (z : Int), l[k]? = some z ∧ okW z = false ∧ ∀ j u, j < k → l[j]? = some u → okW u = true
  | [], h => by cases h
  | x :: l, h => by
    cases hx : okW x with
    | false => exact ⟨0, x, rfl, hx, fun j u hj => absurd hj (by omega)⟩
    | true =>
      rw [List.all_cons, hx, Bool.true_and] at h
      obtain ⟨k, z, h1, h2, h3⟩ := bad16_first h
      refine ⟨k + 1, z, h1, h2, fun j u hj hu => ?_⟩
      cases j with
      | zero => injection hu with hu; rw [← hu]; exact hx
      | succ j => exact h3 j u (by omega) hu
/-- The reference's giver behind Send. -/
def rsnG (H : Gv) (G : Rv) (l : List Int) : Rv := if sendE16 H l = 0 then { G with load := l, at_ := 1 } else G
theorem rel16_snd {H : Gv} {G : Rv} (h : Rel16 H G) (l : List Int) : Rel16 (sendG16 H l) (rsnG H G l) := by
  unfold rsnG
  by_cases he : sendE16 H l = 0
  · rw [if_pos he]; exact rel16_send h he
  · rw [if_neg he]; unfold sendG16; rw [if_neg he]; exact h
theorem rsend_rel (P Q : Nat → Prop) (H : Gv) (G : Rv) (v : Value) (l : List Int) (w : World) (r : RvL w P G (.slice Af nf cf) (.slice Ao no co) (.slice Al nl cl)) (h : Rel16 H G) (hv : Lies w Q v (ints l)) (hcap : CapOk v) :
    Calls Tryd.prog 11 #[rvV G (.slice Af nf cf) (.slice Ao no co) (.slice Al nl cl), v] w (RVA P (rsnG H G l) (sendE16 H l) w) := by
  have hat := h.at_
  have keep : ∀ n e w', RSnd G Af nf cf Ao no co Al nl cl n w e w' → RVA P G n w e w' := fun n e w' ⟨he, b⟩ =>
    ⟨_, _, _, _, _, _, _, _, _, he, ⟨(r.free.below b).weak (fun _ _ h => .inl h), (r.out.below b).weak (fun _ _ h => .inl h), (r.load.below b).weak (fun _ _ h => .inl h), r.cf, r.co, r.cl⟩, b⟩
  have hvT := hv.weak (Q := fun _ => True) (fun _ _ _ => trivial)
  unfold rsnG sendE16
  by_cases h0 : H.st ≠ 0
  · rw [if_pos h0, if_neg (by omega)]
    obtain ⟨A, n, c, rfl, -, -⟩ := lies_open hv
    exact (rsend_busy G A n c w (by omega)).mono (keep 11)
  · rw [if_neg h0]
    have a0 : G.at_ = 0 := by omega
    by_cases h8 : 8 < l.length
    · rw [if_pos h8, if_neg (by omega)]
      obtain ⟨A, n, c, rfl, hn, -⟩ := lies_open hv
      exact (rsend_long G A n c w a0 (by have := hn.out; omega)).mono (keep 18)
    · rw [if_neg h8]
      cases ha : l.all okW with
      | false =>
        obtain ⟨k, z, h1, h2, h3⟩ := bad16_first ha
        exact (rsend_arg G v l k z w hvT a0 (by omega) h1 h2 h3).mono (keep 2)
      | true =>
        have hall : ∀ u ∈ l, okW u = true := List.all_eq_true.1 ha
        by_cases hl : l = []
        · subst hl
          obtain ⟨A, n, c, rfl, hn, -⟩ := lies_open hv
          obtain rfl : n = 0 := hn.out.symm
          refine (rsend_none G A c w hcap a0).mono ?_
          rintro e w' ⟨A', c', rfl, o, b⟩
          exact ⟨_, _, _, _, _, _, _, _, _, rfl, ⟨(r.free.below b).weak (fun _ _ h => .inl h), (r.out.below b).weak (fun _ _ h => .inl h), (Lies.of_own o).weak (fun _ _ h => .inr h), r.cf, r.co, CapOk.of_own o⟩, b⟩
        · refine (rsend_ok G v l w hvT a0 (by omega) hl hall).mono ?_
          rintro e w' ⟨A', c', rfl, o, b⟩
          exact ⟨_, _, _, _, _, _, _, _, _, rfl, ⟨(r.free.below b).weak (fun _ _ h => .inl h), (r.out.below b).weak (fun _ _ h => .inl h), (Lies.of_own o).weak (fun _ _ h => .inr h), r.cf, r.co, CapOk.of_own o⟩, b⟩
end
end

end Go.Proofs.YteipocjgmgaglaaDoor
