/-
  Texts merged, with what one theorem needs of them.
  Conditions: those that each theorem states.
-/
import Derived.Test.YteipocjgmgaglaaDoorRows
import Derived.Test.YteipocjgmgaglaaDoorZ1
import Derived.Test.YteipocjgmgaglaaDoorZ2
import Derived.Test.YteipocjgmgaglaaDoorZ3
import Derived.Test.YteipocjgmgaglaaDoorZ4
import Derived.Test.YteipocjgmgaglaaDoorZ5
import Derived.Test.YteipocjgmgaglaaDoorZ6
import Derived.Test.YteipocjgmgaglaaDoorZ7
import Derived.Test.YteipocjgmgaglaaDoorZ8
import Derived.Test.YteipocjgmgaglaaDoorZ9
import Derived.Test.YteipocjgmgaglaaDoorZ10
import Derived.Test.YteipocjgmgaglaaDoorZ11
import Derived.Test.YteipocjgmgaglaaDoorZ12
import Derived.Test.YteipocjgmgaglaaDoorZ13
import Derived.Test.YteipocjgmgaglaaDoorZ14
import Derived.Test.YteipocjgmgaglaaDoorZ15
import Derived.Test.YteipocjgmgaglaaDoorZ16
import Derived.Test.YteipocjgmgaglaaDoorZ17
import Derived.Test.YteipocjgmgaglaaDoorZ18
import Derived.Test.YteipocjgmgaglaaDoorZ19
import Derived.Test.YteipocjgmgaglaaDoorZ20
import Derived.Test.YteipocjgmgaglaaDoorZ21
import Derived.Below
import Derived.BigQuiet
import Derived.Deep.AppendLies
import Derived.Deep.DeepMust
import Derived.Deep.Draws
import Derived.Deep.MidRow
import Derived.Deep.OwnRows
import Derived.Deep.QuietTactic
import Derived.Deep.RegionHeld3
import Derived.Deep.RegionLaw
import Derived.Deep.RegionWith
import Derived.Defers
import Derived.Great.BuildSlice
import Derived.Handy
import Derived.IntWalk
import Derived.KernelRfl
import Derived.LaidLaws
import Derived.LaidMore
import Derived.Laws.BitsLemmas
import Derived.Laws.CopyOwn
import Derived.Laws.OwnMore
import Derived.Laws.Rows
import Derived.Lib.Hide
import Derived.Lib.SliceRun
import Derived.MakeChecks
import Derived.Maps.AppendAt
import Derived.OpenShut
import Derived.ProofKit
import Derived.Recover
import Derived.RegionTactic
import Derived.Scope
import Derived.WalkKit
import Derived.WalkMore
namespace Go.Proofs.YteipocjgmgaglaaDoor

section
open Go.ChangeShapes Go.WideShapes Go.ChangeAt Go.RowKit
section
variable {Af Ao Al : Option Addr} {nf cf no co nl cl : Nat}
set_option maxRecDepth 100000 in
set_option maxHeartbeats 1000000 in
theorem raft_over_bad (G : Rv) (x : Int) (w : World) (h : G.at_ = 15) (hx : x = G.known) (ha : G.ans ≠ 0) :
    Calls Tryd.prog 37 #[rvV G (.slice Af nf cf) (.slice Ao no co) (.slice Al nl cl), .int .i64 x] w fun e w' => e = .returned (.tuple #[rvV { G with at_ := 0 } (.slice Af nf cf) (.slice Ao no co) (.slice Al nl cl), .int .i64 G.ans]) ∧ Below w.heap.size w w' := by
  have HSZ := Lib.hid (fun (H : Rv) (a b c : Value) => (rv_size.trans (congrArg some (rv_len H a b c).symm)))
  have HONE := Lib.hid (rv_one (Af := Af) (nf := nf) (cf := cf) (Ao := Ao) (no := no) (co := co) (Al := Al) (nl := nl) (cl := cl))
  have H1 := Lib.hid h
  have g1 : (x != G.known) = false := by simpa using hx
  have g2 : (G.ans == 0) = false := by simpa using ha
  have KAD := Lib.hid (fun W => radd_any G.next 1 W)
  clear h hx ha
  unfold rvV
  go_enter Tryd.func37, Tryd.ntmps37
  go_wp2_with (first
    | ((with_reducible refine box_walk rfl 35 (.tmp 0) rfl (rvC G (.slice Af nf cf) (.slice Ao no co) (.slice Al nl cl)) rfl ?_); intro w1 r1 b1 z1; have R1 := Lib.hid r1; have B1 := Lib.hid b1; have hlt1 := r1.lt; clear r1 b1 z1)
    | ((with_reducible refine alloc_walk (o := ⟨some 4, _, _, _, _, _⟩) rfl 35 rfl _ rv_zero ?_); go_must (intro w2 r2 b2 z2; have R2 := Lib.hid (R1.out.below b2); have Q2 := Lib.hid r2; have B2 := Lib.hid (below_on B1.out b2); have c5 := R2.out.cell 5; have c9 := R2.out.cell 9; have f9 := R2.out.soft 9; have c11 := R2.out.cell 11; have f11 := R2.out.soft 11; have c14 := R2.out.cell 14; simp only [rvC, List.getElem?_cons_zero, List.getElem?_cons_succ] at c5 c9 c11 c14; rw [H1.out] at c11; have R3 : Hid (Row (w2.setCell ⟨w.heap.size, 11, none⟩ (.int .i64 0)) w.heap.size 35 (rvC { G with at_ := 0 } (.slice Af nf cf) (.slice Ao no co) (.slice Al nl cl))) := Lib.hid (R2.out.put 11 (.int .i64 0)); have Q3 : Hid (Row (w2.setCell ⟨w.heap.size, 11, none⟩ (.int .i64 0)) w1.heap.size 35 rvZ) := Lib.hid (Q2.out.far (p := ⟨w.heap.size, 11, none⟩) (Nat.ne_of_gt hlt1) _); have B3 := Lib.hid (B2.out.setCell (p := ⟨w.heap.size, 11, none⟩) (Nat.le_refl _) (.int .i64 0)); clear r2 b2 z2))
    | (go_at_call 48; refine (KAD.out _).mono ?_; rintro e w7 ⟨rfl, rfl⟩))
  have hR0 : Row (w2.setCell ⟨w.heap.size, 11, none⟩ (.int .i64 0)).drew w.heap.size 35 (rvC { G with at_ := 0 } (.slice Af nf cf) (.slice Ao no co) (.slice Al nl cl)) := R3.out
  have hQ0 : Row (w2.setCell ⟨w.heap.size, 11, none⟩ (.int .i64 0)).drew w1.heap.size 35 rvZ := Q3.out
  have hB0 : Below w.heap.size w (w2.setCell ⟨w.heap.size, 11, none⟩ (.int .i64 0)).drew := B3.out.drew
  have hS0 : Row (w2.setCell ⟨w.heap.size, 11, none⟩ (.int .i64 0)).drew w.heap.size 35 (rvC { G with at_ := 0 } (.slice Af nf cf) (.slice Ao no co) (.slice Al nl cl)) ∧ (w2.setCell ⟨w.heap.size, 11, none⟩ (.int .i64 0)).drew.cell? ⟨w.heap.size, 14, none⟩ = some (.int .i64 G.ans) := ⟨hR0, hR0.cell 14⟩
  refine wp_region_held_drew (S := fun W => Row W w.heap.size 35 (rvC { G with at_ := 0 } (.slice Af nf cf) (.slice Ao no co) (.slice Al nl cl)) ∧ W.cell? ⟨w.heap.size, 14, none⟩ = some (.int .i64 G.ans)) (by kernel_rfl) hS0 (fun hHeld => ?_)
  refine wpAnyH_take (i := 0) (oi := { dst := some 98, op := Go.Op.load 35 (Go.Operand.tmp 2), type := 35, pos := "ref.go:231", after := #[], guard := none }) (v := .agg (rvC { G with at_ := 0 } (.slice Af nf cf) (.slice Ao no co) (.slice Al nl cl)).toArray) rfl (by kernel_rfl) (by kernel_rfl) (by kernel_rfl) (fun _ _ _ h => h) (yieldsIf_row rfl 35 (.tmp 2) rfl w.heap.size rfl (rvC { G with at_ := 0 } (.slice Af nf cf) (.slice Ao no co) (.slice Al nl cl)) rv_struct (HSZ.out _ _ _ _) 35 (fun W h => h.1)) (by assumption) ?_
  try simp only [Act.put, List.setIfInBounds_toArray, List.set_cons_zero, List.set_cons_succ]
  refine' wpAnyH_take (i := 1) (oi := { dst := some 99, op := Go.Op.fieldAddr 35 (Go.Operand.tmp 2) 14, type := 0, pos := "ref.go:231", after := #[{ on := 3, ground := Go.Ground.gcOnly Go.Departure.lateStores }], guard := none }) (v := _) rfl (by kernel_rfl) (by kernel_rfl) (by kernel_rfl) (fun _ _ _ h => h) (Or.inl ⟨by rfl, ?hy2⟩) (by assumption) ?rest2
  case hy2 => (intro w hSw; (try dsimp only at hSw); go_simp; try with_reducible rfl)
  try simp only [Act.put, List.setIfInBounds_toArray, List.set_cons_zero, List.set_cons_succ]
  refine' wpAnyH_take (i := 2) (oi := { dst := some 100, op := Go.Op.load 3 (Go.Operand.tmp 99), type := 3, pos := "ref.go:231", after := #[{ on := 1, ground := Go.Ground.data }, { on := 3, ground := Go.Ground.gcOnly Go.Departure.lateStores }], guard := none }) (v := _) rfl (by kernel_rfl) (by kernel_rfl) (by kernel_rfl) (fun _ _ _ h => h) (Or.inl ⟨by rfl, ?hy3⟩) (by assumption) ?rest3
  case hy3 => (intro w hSw; (try dsimp only at hSw); go_simp; try with_reducible rfl)
  try simp only [Act.put, List.setIfInBounds_toArray, List.set_cons_zero, List.set_cons_succ]
  refine wpAnyH_ready (rs := [3]) (by kernel_rfl) (by simp) ?_
  refine AllReadyH.cons (o := { dst := none, op := Go.Op.store 35 (Go.Operand.tmp 4) (Go.Operand.tmp 98), type := 0, pos := "ref.go:231", after := #[{ on := 0, ground := Go.Ground.data }, { on := 0, ground := Go.Ground.phase }, { on := 1, ground := Go.Ground.textOnly Go.Departure.lateStores }, { on := 2, ground := Go.Ground.textOnly Go.Departure.lateStores }], guard := none }) rfl (fun K hK => ?_) AllReadyH.nil
  refine storeRow_step rfl 35 (.tmp 4) (.tmp 98) rfl w1.heap.size rfl (rvC { G with at_ := 0 } (.slice Af nf cf) (.slice Ao no co) (.slice Al nl cl)) rfl (HSZ.out _ _ _ _) 35 rvZ hQ0 rfl (HONE.out _) ?_
  intro w4 r4 o4 z4
  have R4 := Lib.hid r4
  have B4 := Lib.hid (Only.below hB0 o4 hB0.size (fun k hk e => by subst e; omega))
  have h4 := hS0.1.only o4 (fun e => by omega)
  refine hK.out _ _ ⟨h4, h4.cell 14⟩ (fun _ => ?_)
  clear hK K
  try simp only [Act.put]
  refine' wpAnyH_take (i := 4) (oi := { dst := some 5, op := Go.Op.assign (Go.Operand.tmp 100), type := 3, pos := "ref.go:231", after := #[{ on := 2, ground := Go.Ground.data }, { on := 3, ground := Go.Ground.chain }, { on := 0, ground := Go.Ground.phase }, { on := 1, ground := Go.Ground.phase }, { on := 2, ground := Go.Ground.phase }, { on := 3, ground := Go.Ground.phase }], guard := none }) (v := _) rfl (by kernel_rfl) (by kernel_rfl) (by kernel_rfl) (fun _ _ _ h => h) (Or.inl ⟨by rfl, ?hy5⟩) (by assumption) ?rest5
  case hy5 => (intro w hSw; (try dsimp only at hSw); go_simp; try with_reducible rfl)
  try simp only [Act.put, List.setIfInBounds_toArray, List.set_cons_zero, List.set_cons_succ]
  refine wpAnyH_done (by kernel_rfl) ?_ _
  go_wp2
  exact bodyPost_ret (rv_results2 Tryd.results37 rfl rfl R4.out) rfl ⟨rfl, B4.out⟩
set_option maxRecDepth 100000 in
set_option maxHeartbeats 1000000 in
theorem raft_over_ok (G : Rv) (x : Int) (w : World) (h : G.at_ = 15) (hx : x = G.known) (ha : G.ans = 0) :
    Calls Tryd.prog 37 #[rvV G (.slice Af nf cf) (.slice Ao no co) (.slice Al nl cl), .int .i64 x] w fun e w' => e = .returned (.tuple #[rvV { G with at_ := 0, next := addW G.next 1 } (.slice Af nf cf) (.slice Ao no co) (.slice Al nl cl), .int .i64 0]) ∧ Below w.heap.size w w' := by
  have HSZ := Lib.hid (fun (H : Rv) (a b c : Value) => (rv_size.trans (congrArg some (rv_len H a b c).symm)))
  have HONE := Lib.hid (rv_one (Af := Af) (nf := nf) (cf := cf) (Ao := Ao) (no := no) (co := co) (Al := Al) (nl := nl) (cl := cl))
  have H1 := Lib.hid h
  have g1 : (x != G.known) = false := by simpa using hx
  have H2 := Lib.hid ha
  have KAD := Lib.hid (fun W => radd_any G.next 1 W)
  clear h hx ha
  unfold rvV
  go_enter Tryd.func37, Tryd.ntmps37
  go_wp2_with (first
    | ((with_reducible refine box_walk rfl 35 (.tmp 0) rfl (rvC G (.slice Af nf cf) (.slice Ao no co) (.slice Al nl cl)) rfl ?_); intro w1 r1 b1 z1; have R1 := Lib.hid r1; have B1 := Lib.hid b1; have hlt1 := r1.lt; clear r1 b1 z1)
    | ((with_reducible refine alloc_walk (o := ⟨some 4, _, _, _, _, _⟩) rfl 35 rfl _ rv_zero ?_); go_must (intro w2 r2 b2 z2; have R2 := Lib.hid (R1.out.below b2); have Q2 := Lib.hid r2; have B2 := Lib.hid (below_on B1.out b2); have c5 := R2.out.cell 5; have c9 := R2.out.cell 9; have f9 := R2.out.soft 9; have c11 := R2.out.cell 11; have f11 := R2.out.soft 11; have c14 := R2.out.cell 14; simp only [rvC, List.getElem?_cons_zero, List.getElem?_cons_succ] at c5 c9 c11 c14; rw [H1.out] at c11; rw [H2.out] at c14; have R3 : Hid (Row ((w2.setCell ⟨w.heap.size, 11, none⟩ (.int .i64 0)).setCell ⟨w.heap.size, 9, none⟩ (.int .i64 (addW G.next 1))) w.heap.size 35 (rvC { G with at_ := 0, next := addW G.next 1 } (.slice Af nf cf) (.slice Ao no co) (.slice Al nl cl))) := Lib.hid ((R2.out.put 11 (.int .i64 0)).put 9 (.int .i64 (addW G.next 1))); have Q3 : Hid (Row ((w2.setCell ⟨w.heap.size, 11, none⟩ (.int .i64 0)).setCell ⟨w.heap.size, 9, none⟩ (.int .i64 (addW G.next 1))) w1.heap.size 35 rvZ) := Lib.hid ((Q2.out.far (p := ⟨w.heap.size, 11, none⟩) (Nat.ne_of_gt hlt1) _).far (p := ⟨w.heap.size, 9, none⟩) (Nat.ne_of_gt hlt1) _); have B3 := Lib.hid ((B2.out.setCell (p := ⟨w.heap.size, 11, none⟩) (Nat.le_refl _) (.int .i64 0)).setCell (p := ⟨w.heap.size, 9, none⟩) (Nat.le_refl _) (.int .i64 (addW G.next 1))); clear r2 b2 z2))
    | (go_at_call 48; refine (KAD.out _).mono ?_; rintro e w7 ⟨rfl, rfl⟩))
  have hR0 : Row ((w2.setCell ⟨w.heap.size, 11, none⟩ (.int .i64 0)).setCell ⟨w.heap.size, 9, none⟩ (.int .i64 (addW G.next 1))).drew w.heap.size 35 (rvC { G with at_ := 0, next := addW G.next 1 } (.slice Af nf cf) (.slice Ao no co) (.slice Al nl cl)) := R3.out
  have hQ0 : Row ((w2.setCell ⟨w.heap.size, 11, none⟩ (.int .i64 0)).setCell ⟨w.heap.size, 9, none⟩ (.int .i64 (addW G.next 1))).drew w1.heap.size 35 rvZ := Q3.out
  have hB0 : Below w.heap.size w ((w2.setCell ⟨w.heap.size, 11, none⟩ (.int .i64 0)).setCell ⟨w.heap.size, 9, none⟩ (.int .i64 (addW G.next 1))).drew := B3.out.drew
  have hS0 : Row ((w2.setCell ⟨w.heap.size, 11, none⟩ (.int .i64 0)).setCell ⟨w.heap.size, 9, none⟩ (.int .i64 (addW G.next 1))).drew w.heap.size 35 (rvC { G with at_ := 0, next := addW G.next 1 } (.slice Af nf cf) (.slice Ao no co) (.slice Al nl cl)) ∧ ((w2.setCell ⟨w.heap.size, 11, none⟩ (.int .i64 0)).setCell ⟨w.heap.size, 9, none⟩ (.int .i64 (addW G.next 1))).drew.cell? ⟨w.heap.size, 14, none⟩ = some (.int .i64 0) := ⟨hR0, by have := hR0.cell 14; simp only [rvC, List.getElem?_cons_zero, List.getElem?_cons_succ] at this; rw [H2.out] at this; exact this⟩
  refine wp_region_held_drew (S := fun W => Row W w.heap.size 35 (rvC { G with at_ := 0, next := addW G.next 1 } (.slice Af nf cf) (.slice Ao no co) (.slice Al nl cl)) ∧ W.cell? ⟨w.heap.size, 14, none⟩ = some (.int .i64 0)) (by kernel_rfl) hS0 (fun hHeld => ?_)
  refine wpAnyH_take (i := 0) (oi := { dst := some 98, op := Go.Op.load 35 (Go.Operand.tmp 2), type := 35, pos := "ref.go:231", after := #[], guard := none }) (v := .agg (rvC { G with at_ := 0, next := addW G.next 1 } (.slice Af nf cf) (.slice Ao no co) (.slice Al nl cl)).toArray) rfl (by kernel_rfl) (by kernel_rfl) (by kernel_rfl) (fun _ _ _ h => h) (yieldsIf_row rfl 35 (.tmp 2) rfl w.heap.size rfl (rvC { G with at_ := 0, next := addW G.next 1 } (.slice Af nf cf) (.slice Ao no co) (.slice Al nl cl)) rv_struct (HSZ.out _ _ _ _) 35 (fun W h => h.1)) (by assumption) ?_
  try simp only [Act.put, List.setIfInBounds_toArray, List.set_cons_zero, List.set_cons_succ]
  refine' wpAnyH_take (i := 1) (oi := { dst := some 99, op := Go.Op.fieldAddr 35 (Go.Operand.tmp 2) 14, type := 0, pos := "ref.go:231", after := #[{ on := 3, ground := Go.Ground.gcOnly Go.Departure.lateStores }], guard := none }) (v := _) rfl (by kernel_rfl) (by kernel_rfl) (by kernel_rfl) (fun _ _ _ h => h) (Or.inl ⟨by rfl, ?hy7⟩) (by assumption) ?rest7
  case hy7 => (intro w hSw; (try dsimp only at hSw); go_simp; try with_reducible rfl)
  try simp only [Act.put, List.setIfInBounds_toArray, List.set_cons_zero, List.set_cons_succ]
  refine' wpAnyH_take (i := 2) (oi := { dst := some 100, op := Go.Op.load 3 (Go.Operand.tmp 99), type := 3, pos := "ref.go:231", after := #[{ on := 1, ground := Go.Ground.data }, { on := 3, ground := Go.Ground.gcOnly Go.Departure.lateStores }], guard := none }) (v := _) rfl (by kernel_rfl) (by kernel_rfl) (by kernel_rfl) (fun _ _ _ h => h) (Or.inl ⟨by rfl, ?hy8⟩) (by assumption) ?rest8
  case hy8 => (intro w hSw; (try dsimp only at hSw); go_simp; try with_reducible rfl)
  try simp only [Act.put, List.setIfInBounds_toArray, List.set_cons_zero, List.set_cons_succ]
  refine wpAnyH_ready (rs := [3]) (by kernel_rfl) (by simp) ?_
  refine AllReadyH.cons (o := { dst := none, op := Go.Op.store 35 (Go.Operand.tmp 4) (Go.Operand.tmp 98), type := 0, pos := "ref.go:231", after := #[{ on := 0, ground := Go.Ground.data }, { on := 0, ground := Go.Ground.phase }, { on := 1, ground := Go.Ground.textOnly Go.Departure.lateStores }, { on := 2, ground := Go.Ground.textOnly Go.Departure.lateStores }], guard := none }) rfl (fun K hK => ?_) AllReadyH.nil
  refine storeRow_step rfl 35 (.tmp 4) (.tmp 98) rfl w1.heap.size rfl (rvC { G with at_ := 0, next := addW G.next 1 } (.slice Af nf cf) (.slice Ao no co) (.slice Al nl cl)) rfl (HSZ.out _ _ _ _) 35 rvZ hQ0 rfl (HONE.out _) ?_
  intro w4 r4 o4 z4
  have R4 := Lib.hid r4
  have B4 := Lib.hid (Only.below hB0 o4 hB0.size (fun k hk e => by subst e; omega))
  have h4 := hS0.1.only o4 (fun e => by omega)
  refine hK.out _ _ ⟨h4, by have := h4.cell 14; simp only [rvC, List.getElem?_cons_zero, List.getElem?_cons_succ] at this; rw [H2.out] at this; exact this⟩ (fun _ => ?_)
  clear hK K
  try simp only [Act.put]
  refine' wpAnyH_take (i := 4) (oi := { dst := some 5, op := Go.Op.assign (Go.Operand.tmp 100), type := 3, pos := "ref.go:231", after := #[{ on := 2, ground := Go.Ground.data }, { on := 3, ground := Go.Ground.chain }, { on := 0, ground := Go.Ground.phase }, { on := 1, ground := Go.Ground.phase }, { on := 2, ground := Go.Ground.phase }, { on := 3, ground := Go.Ground.phase }], guard := none }) (v := _) rfl (by kernel_rfl) (by kernel_rfl) (by kernel_rfl) (fun _ _ _ h => h) (Or.inl ⟨by rfl, ?hy10⟩) (by assumption) ?rest10
  case hy10 => (intro w hSw; (try dsimp only at hSw); go_simp; try with_reducible rfl)
  try simp only [Act.put, List.setIfInBounds_toArray, List.set_cons_zero, List.set_cons_succ]
  refine wpAnyH_done (by kernel_rfl) ?_ _
  go_wp2
  exact bodyPost_ret (rv_results2 Tryd.results37 rfl rfl R4.out) rfl ⟨rfl, B4.out⟩
end
end

section
open Go.ChangeShapes Go.WideShapes Go.ChangeAt Go.RowKit
theorem RvL.weak {w : World} {P Q : Nat → Prop} {G : Rv} {vf vo vl : Value} (r : RvL w P G vf vo vl) (h : ∀ x, x < w.heap.size → P x → Q x) : RvL w Q G vf vo vl := ⟨r.free.weak h, r.out.weak h, r.load.weak h, r.cf, r.co, r.cl⟩
theorem RvL.only {S : Nat → Prop} {w w' : World} {P : Nat → Prop} {G : Rv} {vf vo vl : Value} (r : RvL w P G vf vo vl) (ho : Only S w w') (h : ∀ x, S x → ¬ P x) : RvL w' P G vf vo vl := ⟨r.free.only ho h, r.out.only ho h, r.load.only ho h, r.cf, r.co, r.cl⟩
theorem RvL.old {w : World} {P : Nat → Prop} {G : Rv} {vf vo vl : Value} (r : RvL w P G vf vo vl) : RvL w (fun x => P x ∧ x < w.heap.size) G vf vo vl := r.weak (fun _ h p => ⟨p, h⟩)
section
variable {Af Ao Al : Option Addr} {nf cf no co nl cl : Nat}
theorem rroomy_any (P : Nat → Prop) (G : Rv) (w : World) (r : RvL w P G (.slice Af nf cf) (.slice Ao no co) (.slice Al nl cl)) (hb : G.out.length ≤ 100) :
    Calls Tryd.prog 52 #[rvV G (.slice Af nf cf) (.slice Ao no co) (.slice Al nl cl)] w (RVP P (rroo G) w) := by
  by_cases h : 0 < G.left
  · rw [rroo_back h]
    refine (rroomy_back G w h).mono ?_
    rintro e w' ⟨rfl, b⟩
    exact ⟨_, _, _, _, _, _, _, _, _, rfl, ⟨(r.free.below b).weak (fun _ _ h => .inl h), (r.out.below b).weak (fun _ _ h => .inl h), (r.load.below b).weak (fun _ _ h => .inl h), r.cf, r.co, r.cl⟩, b⟩
  · cases hf : G.free with
    | nil =>
      rw [rroo_full h hf]
      obtain ⟨_, _, _, rf, hn1, hL1⟩ := lies_open r.free
      injection rf with e1 e2 e3
      have k1 : G.free.length = nf := by rw [e2]; exact hn1.out
      obtain rfl : nf = 0 := by rw [← k1, hf]; rfl
      refine (rroomy_full G w h).mono ?_
      rintro e w' ⟨rfl, b⟩
      exact ⟨_, _, _, _, _, _, _, _, _, rfl, ⟨(r.free.below b).weak (fun _ _ h => .inl h), (r.out.below b).weak (fun _ _ h => .inl h), (r.load.below b).weak (fun _ _ h => .inl h), r.cf, r.co, r.cl⟩, b⟩
    | cons d fs =>
      rw [rroo_take h hf]
      by_cases hl : G.load = []
      · rw [if_pos hl]
        exact rroomy_take_empty P G d fs w r hf h hb hl
      · rw [if_neg hl]
        exact rroomy_take_some P G d fs w r hf h hb hl
theorem filter16_more (l : List Int) (i : Nat) (x y : Int) (h : l[i]? = some y) : (l.take (i + 1)).filter (fun z => decide (z ≠ x)) = (l.take i).filter (fun z => decide (z ≠ x)) ++ (if y = x then [] else [y]) := by
  rw [List.take_add_one, h]
  by_cases e : y = x <;> simp [e]
theorem mem16_more (l : List Int) (i : Nat) (x y : Int) (h : l[i]? = some y) : decide (x ∈ l.take (i + 1)) = (decide (x ∈ l.take i) || decide (y = x)) := by
  rw [List.take_add_one, h]
  by_cases e : y = x
  · simp [e]
  · have : ¬ x = y := fun f => e f.symm
    simp [e, this]
set_option maxRecDepth 100000 in
set_option maxHeartbeats 4000000 in
theorem rback_any (P : Nat → Prop) (G : Rv) (x : Int) (w : World) (r0 : RvL w P G (.slice Af nf cf) (.slice Ao no co) (.slice Al nl cl)) (hb : G.out.length ≤ 64) (hf : G.free.length ≤ 64) (hleft : 0 < G.left ∧ G.left ≤ 65535) :
    Calls Tryd.prog 53 #[rvV G (.slice Af nf cf) (.slice Ao no co) (.slice Al nl cl), .int .i64 x] w (RVP P (rbck G x) w) := by
  obtain ⟨i0, hi0, hz0, hz1, hz2⟩ := info_parts int_info
  have HSZ := Lib.hid (fun (H : Rv) (a b c : Value) => (rv_size.trans (congrArg some (rv_len H a b c).symm)))
  have HONE := Lib.hid (rv_one (Af := Af) (nf := nf) (cf := cf) (Ao := Ao) (no := no) (co := co) (Al := Al) (nl := nl) (cl := cl))
  have r := r0.old
  obtain ⟨_, _, _, rf, hn1, hL1⟩ := lies_open r.free
  injection rf with e1 e2 e3
  subst e1 e2 e3
  obtain ⟨_, _, _, rf, hn2, hL2⟩ := lies_open r.out
  injection rf with e1 e2 e3
  subst e1 e2 e3
  have k1 : G.free.length = nf := hn1.out
  have k2 : G.out.length = no := hn2.out
  rw [k2] at hb
  rw [k1] at hf
  have K2 := Lib.hid k2
  have HR := Lib.hid r
  have HC1 := Lib.hid r.cf
  have HI1 := Lib.hid (ints_one G.free)
  have d1 : IntKind.i64.wrap (G.left - 1) = G.left - 1 := IntWalk.i64_in _ (by omega)
  have KAD := Lib.hid (fun W => radd_any G.tail 1 W)
  have KO := Lib.hid (fun W => rover_any (Af := Af) (nf := nf) (cf := cf) (Ao := Ao) (no := no) (co := co) (Al := Al) (nl := nl) (cl := cl) G 10 W)
  unfold rvV at KO
  clear r0 r hn1 hn2 hL1 hL2 k1 k2 hleft
  unfold rvV
  go_enter Tryd.func53, Tryd.ntmps53
  go_wp2_with (first
    | ((with_reducible refine box_walk rfl 35 (.tmp 0) rfl (rvC G (.slice Af nf cf) (.slice Ao no co) (.slice Al nl cl)) rfl ?_); intro w1 r1 b1 z1; have R1 := Lib.hid r1; have B1 := Lib.hid b1; have hlt1 := r1.lt; clear r1 b1 z1)
    | ((with_reducible refine alloc_walk (o := ⟨some 4, _, _, _, _, _⟩) rfl 35 rfl _ rv_zero ?_); go_must (intro w2 r2 b2 z2; have R2 := Lib.hid (R1.out.below b2); have Q2 := Lib.hid r2; have B2 := Lib.hid (below_on B1.out b2); have Z2 := Lib.hid z2; clear r2 b2 z2)))
  go_loopw [5, 6, 7] (fun ov wv iv wr => ∃ (i m c : Nat) (A : Option Addr) (b : Bool), i ≤ no ∧ iv = .int .i64 i ∧ ov = .slice A m c ∧ wv = .bool b ∧ m ≤ i ∧ Hid (b = decide (x ∈ G.out.take i)) ∧ Hid (wr.ownsRow w2.heap.size 3 1 (.slice A m c) m (ints ((G.out.take i).filter (fun z => decide (z ≠ x))))) ∧ Hid (Below w2.heap.size w2 wr)) (fun _ _ iv _ => no + 1 - (intOf iv).toNat)
  case atStart => exact ⟨0, 0, 0, none, false, Nat.zero_le _, rfl, rfl, rfl, Nat.zero_le _, Lib.hid (by simp), Lib.hid (by rw [List.take_zero]; exact World.ownsRow_nil _ _ _ _), Lib.hid (Below.refl _ _)⟩
  case round =>
    obtain ⟨i, m, c, A, b, hi, rfl, rfl, rfl, hmi, HBV, O, B⟩ := hrel
    have R := Lib.hid (R2.out.below B.out)
    have Q := Lib.hid (Q2.out.below B.out)
    have q7 := R.out.cell 7
    have q8 := R.out.cell 8
    have q10 := R.out.cell 10
    have q13 := R.out.cell 13
    simp only [rvC, List.getElem?_cons_zero, List.getElem?_cons_succ] at q7 q8 q10 q13
    by_cases hlt : i < no
    · have hin : decide ((i : Int) < (no : Int)) = true := decide_eq_true (by omega)
      have hin3 : (i : Int) < (no : Int) := by omega
      obtain ⟨y, hy⟩ : ∃ y, G.out[i]? = some y := ⟨_, List.getElem?_eq_getElem (by rw [K2.out]; omega)⟩
      have HY := Lib.hid hy
      obtain ⟨gl, ol, rfl, -, hgl, hlc⟩ := lies_at ((HR.out.out.below B2.out).below B.out) hy
      clear hy hgl
      have hB := B.out.size
      by_cases hyx : y = x
      · have g1 : (y == x) = true := by simpa using hyx
        have HB2 : Hid (true = decide (x ∈ G.out.take (i + 1))) := Lib.hid (by rw [mem16_more _ _ _ _ HY.out]; simp [hyx])
        have O2 : Hid (wr.ownsRow w2.heap.size 3 1 (.slice A m c) m (ints ((G.out.take (i + 1)).filter (fun z => decide (z ≠ x))))) := Lib.hid (by rw [filter16_more _ _ _ _ HY.out, if_pos hyx, List.append_nil]; exact O.out)
        clear O HBV hyx
        go_wp2
        go_roundw
        case rel => exact ⟨i + 1, m, c, A, true, by omega, by go_num, rfl, rfl, by omega, HB2, O2, B⟩
        case measure => simp [intOf]; omega
      · have g1 : (y == x) = false := by simpa using hyx
        have HB2 : Hid (b = decide (x ∈ G.out.take (i + 1))) := Lib.hid (by rw [mem16_more _ _ _ _ HY.out, ← HBV.out]; simp [hyx])
        have HF := Lib.hid (filter16_more _ _ x _ HY.out)
        rw [if_neg hyx] at HF
        clear HBV hyx
        go_wp2_with (at_builtin; go_must ((refine app14_walk rfl (.tmp 23) (.tmp 29) 33 rfl w2.heap.size 3 i0 _ 1 8 Tryd.underlying33 hi0 hz0 hz1 hz2 rfl (by omega) _ _ _ rfl (O.out.alloc _) ⟨_, 0, none⟩ 1 1 [.int .i64 y] rfl rfl (cells_new14 _ _ _ _ (by simp)) (by intro u hu; simp at hu; subst hu; rfl) (by unfold maxLen; omega) (by omega) (by simp; omega) ?_); intro v3 w3 hown3 hg3 hat3; obtain ⟨g', cap', rfl, hbg, hlt'⟩ := hown3.form (by omega); have O3 : Hid (w3.ownsRow w2.heap.size 3 1 (.slice (some ⟨g', 0, none⟩) (m + 1) cap') (m + 1) (ints ((G.out.take (i + 1)).filter (fun z => decide (z ≠ x))))) := Lib.hid (by rw [HF.out, ints_append]; exact hown3); have B3 : Hid (Below w2.heap.size w2 w3) := Lib.hid (Only.below (below_on B.out (below_al _ _)) (Only.of_own hg3) (by simp; omega) (fun x hx h => by have := (O.out.lt x h).1; omega)); clear hown3 hg3 hat3 hbg hlt'))
        clear O B
        go_roundw
        case rel => exact ⟨i + 1, m + 1, cap', some ⟨g', 0, none⟩, b, by omega, by go_num, rfl, rfl, by omega, HB2, O3, B3⟩
        case measure => simp [intOf]; omega
    · obtain rfl : no = i := by omega
      have hin : decide ((no : Int) < (no : Int)) = false := by simp
      have hta : G.out.take no = G.out := List.take_of_length_le (by rw [K2.out]; omega)
      have HTA := Lib.hid hta
      rw [hta] at HBV O
      clear hta
      have hB := B.out.size
      have BW := Lib.hid (below_on B2.out B.out)
      by_cases hx : x ∈ G.out
      · obtain rfl : b = true := by rw [HBV.out]; simpa using hx
        have HEQ : Hid (rbck G x = rroo { G with free := G.free ++ [x], out := G.out.filter (fun y => decide (y ≠ x)), tail := addW G.tail 1, left := G.left - 1 }) := Lib.hid (by unfold rbck; rw [if_pos hx])
        have HFL : Hid ((G.out.filter (fun y => decide (y ≠ x))).length ≤ 100) := Lib.hid (by have := List.length_filter_le (fun y => decide (y ≠ x)) G.out; rw [K2.out] at this; omega)
        clear HBV hx
        have hwb := Z2.out
        have hwa := B1.out.size
        have LO := Lib.hid ((Lies.of_own O.out).weak (Q := fun y => w2.heap.size ≤ y ∧ y < wr.heap.size) (fun y h p => ⟨p, h⟩))
        have CO := Lib.hid (CapOk.of_own O.out)
        obtain ⟨F, hF⟩ : ∃ F, G.out.filter (fun y => decide (y ≠ x)) = F := ⟨_, rfl⟩
        rw [hF] at HEQ HFL LO
        clear O hi hlt hin hmi hF
        go_wp2_with (first
          | (at_builtin; (refine app_walk _ rfl (.tmp 35) (.tmp 37) 33 rfl wr.heap.size 3 i0 _ 8 Tryd.underlying33 hi0 hz0 hz1 hz2 rfl (.slice none 0 0) 0 [] rfl (World.ownsRow_nil _ _ _ _) (fun y => P y ∧ y < w.heap.size) Af nf cf (ints G.free) rfl (HR.out.free.below BW.out) HC1.out HI1.out (by unfold maxLen; omega) (by omega) (by simp) ?_); go_must (intro v5 w5 hown5 hg5 hat5; rw [Nat.zero_add, List.nil_append] at hown5; obtain ⟨A5, u5, rfl⟩ := own_open14 hown5; have o5 : Only (fun y => (Value.slice none 0 0).ownBlock = some y) wr w5 := Only.of_own hg5; have R5 := Lib.hid (R.out.only o5 (fun e => by cases e)); have Q5 := Lib.hid (Q.out.only o5 (fun e => by cases e)); have B5 : Hid (Below w.heap.size w w5) := Lib.hid (Only.below BW.out o5 BW.out.size (fun y hy e => by cases e)); have LO5 := Lib.hid (LO.out.only o5 (fun y e => by cases e)); have O5 := Lib.hid hown5; have S5 := Lib.hid o5.size; clear q7 q8 q10 q13; have q7 := R5.out.cell 7; have f7 := R5.out.soft 7; have q8 := R5.out.cell 8; have f8 := R5.out.soft 8; have q10 := R5.out.cell 10; have f10 := R5.out.soft 10; have q13 := R5.out.cell 13; have f13 := R5.out.soft 13; simp only [rvC, List.getElem?_cons_zero, List.getElem?_cons_succ] at q7 q8 q10 q13; clear hown5 hg5 hat5 o5))
          | (at_builtin; (refine app14_walk rfl (.tmp 39) (.tmp 41) 33 rfl wr.heap.size 3 i0 _ 1 8 Tryd.underlying33 hi0 hz0 hz1 hz2 rfl (by omega) _ _ _ rfl (O5.out.alloc _) ⟨_, 0, none⟩ 1 1 [.int .i64 x] rfl rfl (cells_new14 _ _ _ _ (by simp)) (by intro u hu; simp at hu; subst hu; rfl) (by unfold maxLen; omega) (by omega) (by have := S5.out; simp; omega) ?_); go_must (intro v7 w7 hown7 hg7 hat7; obtain ⟨g7, u7, rfl, hbg, hlt'⟩ := hown7.form (by omega); have o7 : Only (fun y => (Value.slice A5 nf u5).ownBlock = some y) _ w7 := Only.of_own hg7; have R7 := Lib.hid ((R5.out.below (below_al _ _)).only o7 (fun e => by have := (O5.out.lt _ e).1; omega)); have Q7 := Lib.hid ((Q5.out.below (below_al _ _)).only o7 (fun e => by have := (O5.out.lt _ e).1; omega)); have B7 : Hid (Below w.heap.size w w7) := Lib.hid (Only.below (below_on B5.out (below_al _ _)) o7 (by have := B5.out.size; simp; omega) (fun y hy e => by have := (O5.out.lt y e).1; omega)); have LO7 := Lib.hid ((LO5.out.below (below_al _ _)).only o7 (fun y e p => by have := (O5.out.lt y e).1; omega)); have O7 : Hid (w7.ownsRow wr.heap.size 3 1 (.slice (some ⟨g7, 0, none⟩) (nf + 1) u7) (nf + 1) (ints (G.free ++ [x]))) := Lib.hid (by rw [ints_append]; exact hown7); clear q7 q8 q10 q13 f7 f8 f10 f13; have q7 := R7.out.cell 7; have f7 := R7.out.soft 7; have q8 := R7.out.cell 8; have f8 := R7.out.soft 8; have q10 := R7.out.cell 10; have f10 := R7.out.soft 10; have q13 := R7.out.cell 13; have f13 := R7.out.soft 13; simp only [rvC, List.getElem?_cons_zero, List.getElem?_cons_succ] at q7 q8 q10 q13; have R9 : Hid (Row ((((w7.setCell ⟨w.heap.size, 7, none⟩ (.slice (some ⟨g7, 0, none⟩) (nf + 1) u7)).setCell ⟨w.heap.size, 8, none⟩ (.slice A m c)).setCell ⟨w.heap.size, 10, none⟩ (.int .i64 (addW G.tail 1))).setCell ⟨w.heap.size, 13, none⟩ (.int .i64 (G.left - 1))) w.heap.size 35 (rvC { G with free := G.free ++ [x], out := F, tail := addW G.tail 1, left := G.left - 1 } (.slice (some ⟨g7, 0, none⟩) (nf + 1) u7) (.slice A m c) (.slice Al nl cl))) := Lib.hid ((((R7.out.put 7 (.slice (some ⟨g7, 0, none⟩) (nf + 1) u7)).put 8 (.slice A m c)).put 10 (.int .i64 (addW G.tail 1))).put 13 (.int .i64 (G.left - 1))); have Q9 := Lib.hid ((((Q7.out.far (p := ⟨w.heap.size, 7, none⟩) (Nat.ne_of_gt hlt1) (.slice (some ⟨g7, 0, none⟩) (nf + 1) u7)).far (p := ⟨w.heap.size, 8, none⟩) (Nat.ne_of_gt hlt1) (.slice A m c)).far (p := ⟨w.heap.size, 10, none⟩) (Nat.ne_of_gt hlt1) (.int .i64 (addW G.tail 1))).far (p := ⟨w.heap.size, 13, none⟩) (Nat.ne_of_gt hlt1) (.int .i64 (G.left - 1))); have N9 := Lib.hid (((((Only.refl (fun y => y = w.heap.size) w7).setCell (p := ⟨w.heap.size, 7, none⟩) (.inl rfl) (.slice (some ⟨g7, 0, none⟩) (nf + 1) u7)).setCell (p := ⟨w.heap.size, 8, none⟩) (.inl rfl) (.slice A m c)).setCell (p := ⟨w.heap.size, 10, none⟩) (.inl rfl) (.int .i64 (addW G.tail 1))).setCell (p := ⟨w.heap.size, 13, none⟩) (.inl rfl) (.int .i64 (G.left - 1))); have B9 := Lib.hid (Only.below B7.out N9.out B7.out.size (fun y hy e => by omega)); have O9 := Lib.hid (own_quiet O7.out (fun y hy => N9.out.block y (O7.out.lt y hy).2 (fun e => by have := (O7.out.lt y hy).1; omega))); have L9 : Hid (RvL ((((w7.setCell ⟨w.heap.size, 7, none⟩ (.slice (some ⟨g7, 0, none⟩) (nf + 1) u7)).setCell ⟨w.heap.size, 8, none⟩ (.slice A m c)).setCell ⟨w.heap.size, 10, none⟩ (.int .i64 (addW G.tail 1))).setCell ⟨w.heap.size, 13, none⟩ (.int .i64 (G.left - 1))) (fun y => (P y ∧ y < w.heap.size) ∨ w2.heap.size ≤ y) { G with free := G.free ++ [x], out := F, tail := addW G.tail 1, left := G.left - 1 } (.slice (some ⟨g7, 0, none⟩) (nf + 1) u7) (.slice A m c) (.slice Al nl cl)) := Lib.hid ⟨(Lies.of_own O9.out).weak (fun y _ h => .inr (by omega)), (LO7.out.only N9.out (fun y e p => by omega)).weak (fun y _ h => .inr h.1), (HR.out.load.below B9.out).weak (fun y _ h => .inl h), CapOk.of_own O9.out, CO.out, HR.out.cl⟩; have KR := Lib.hid (rroomy_any (fun y => (P y ∧ y < w.heap.size) ∨ w2.heap.size ≤ y) { G with free := G.free ++ [x], out := F, tail := addW G.tail 1, left := G.left - 1 } _ L9.out HFL.out); unfold RVP rvV at KR; clear hown7 hg7 hat7 o7 hbg hlt'))
          | (with_reducible refine loadRow_walk rfl 35 (.tmp 2) rfl w.heap.size rfl (rvC { G with free := G.free ++ [x], out := F, tail := addW G.tail 1, left := G.left - 1 } (.slice (some ⟨g7, 0, none⟩) (nf + 1) u7) (.slice A m c) (.slice Al nl cl)) rv_struct (HSZ.out _ _ _ _) 35 R9.out ?_)
          | (go_at_call 52; refine KR.out.mono ?_; rintro e w10 ⟨Af2, nf2, cf2, Ao2, no2, co2, Al2, nl2, cl2, rfl, l10, b10⟩; have L10 := Lib.hid l10; have Q10 := Lib.hid (Q9.out.below b10); have B10 := Lib.hid (below_on B9.out b10); have S10 := Lib.hid b10.size; clear l10 b10)
          | ((with_reducible refine storeRow_walk rfl 35 (.tmp 4) (.tmp 55) rfl w1.heap.size rfl (rvC (rroo { G with free := G.free ++ [x], out := F, tail := addW G.tail 1, left := G.left - 1 }) (.slice Af2 nf2 cf2) (.slice Ao2 no2 co2) (.slice Al2 nl2 cl2)) rfl (HSZ.out _ _ _ _) 35 rvZ Q10.out rfl (rv_one _) ?_); intro w4 r4 o4 z4; have R4 := Lib.hid r4; have N4 := Lib.hid o4; have B4 := Lib.hid (Only.below B10.out o4 B10.out.size (fun k hk e => by subst e; omega)); clear r4 o4 z4)
          | (go_at_call 48; refine (KAD.out _).mono ?_; rintro e w8 ⟨rfl, rfl⟩))
        have s9 := N9.out.size
        have s7 := S5.out
        have hw9 : wr.heap.size ≤ ((((w7.setCell ⟨w.heap.size, 7, none⟩ (.slice (some ⟨g7, 0, none⟩) (nf + 1) u7)).setCell ⟨w.heap.size, 8, none⟩ (.slice A m c)).setCell ⟨w.heap.size, 10, none⟩ (.int .i64 (addW G.tail 1))).setCell ⟨w.heap.size, 13, none⟩ (.int .i64 (G.left - 1))).heap.size := by have := (O9.out.lt g7 rfl); omega
        refine bodyPost_ret (rv_results Tryd.results53 rfl R4.out) rfl ⟨_, _, _, _, _, _, _, _, _, by rw [HEQ.out], by rw [HEQ.out]; exact ((L10.out.only N4.out (fun y e p => by rcases p with (p | p) | p <;> omega)).weak (fun y _ p => by rcases p with (p | p) | p; exact .inl p.1; exact .inr (by omega); exact .inr (by omega))), B4.out⟩
      · obtain rfl : b = false := by rw [HBV.out]; simpa using hx
        have HEQ : Hid (rbck G x = { G with at_ := 15, ans := 10 }) := Lib.hid (by unfold rbck; rw [if_neg hx])
        clear HBV hx
        go_wp2_with (first
          | (with_reducible refine loadRow_walk rfl 35 (.tmp 2) rfl w.heap.size rfl (rvC G (.slice Af nf cf) (.slice Ao no co) (.slice Al nl cl)) rv_struct (HSZ.out _ _ _ _) 35 R.out ?_)
          | (go_at_call 51; refine (KO.out _).mono ?_; rintro e w8 ⟨rfl, b8⟩; have Q8 := Lib.hid (Q.out.below b8); have B8 := Lib.hid (below_on BW.out b8); clear b8)
          | ((with_reducible refine storeRow_walk rfl 35 (.tmp 4) (.tmp 34) rfl w1.heap.size rfl (rvC { G with at_ := 15, ans := 10 } (.slice Af nf cf) (.slice Ao no co) (.slice Al nl cl)) rfl (HSZ.out _ _ _ _) 35 rvZ Q8.out rfl (HONE.out _) ?_); intro w4 r4 o4 z4; have R4 := Lib.hid r4; have B4 := Lib.hid (Only.below B8.out o4 B8.out.size (fun k hk e => by subst e; omega)); clear r4 o4 z4))
        exact bodyPost_ret (rv_results Tryd.results53 rfl R4.out) rfl ⟨_, _, _, _, _, _, _, _, _, by rw [HEQ.out], by rw [HEQ.out]; exact ⟨(HR.out.free.below B4.out).weak (fun _ _ h => .inl h.1), (HR.out.out.below B4.out).weak (fun _ _ h => .inl h.1), (HR.out.load.below B4.out).weak (fun _ _ h => .inl h.1), HR.out.cf, HR.out.co, HR.out.cl⟩, B4.out⟩
end
end

section
open Go.ChangeShapes Go.WideShapes Go.ChangeAt Go.RowKit
section
variable {Af Ao Al : Option Addr} {nf cf no co nl cl : Nat}
set_option maxRecDepth 100000 in
set_option maxHeartbeats 2000000 in
theorem raft_room (P : Nat → Prop) (G : Rv) (x : Int) (w : World) (r0 : RvL w P G (.slice Af nf cf) (.slice Ao no co) (.slice Al nl cl)) (hb : G.out.length ≤ 64) (h : G.at_ = 6) (hx : ¬ (G.out.length : Int) < subW x G.tail) :
    Calls Tryd.prog 37 #[rvV G (.slice Af nf cf) (.slice Ao no co) (.slice Al nl cl), .int .i64 x] w (RVA P (rroo { G with left := subW x G.tail }) (-1) w) := by
  have HSZ := Lib.hid (fun (H : Rv) (a b c : Value) => (rv_size.trans (congrArg some (rv_len H a b c).symm)))
  obtain ⟨_, _, _, rf, hn2, hL2⟩ := lies_open r0.out
  injection rf with e1 e2 e3
  subst e1 e2 e3
  have k2 : G.out.length = no := hn2.out
  have HR := Lib.hid r0.old
  rw [k2] at hb
  have H1 := Lib.hid h
  have g1 : decide ((no : Int) < subW x G.tail) = false := decide_eq_false (by rw [← k2]; exact hx)
  have KSB := Lib.hid (fun W => rsub_any x G.tail W)
  have HB := Lib.hid (show G.out.length ≤ 100 by omega)
  clear h hx
  clear r0 hn2 hL2 k2
  unfold rvV
  go_enter Tryd.func37, Tryd.ntmps37
  go_wp2_with (first
    | ((with_reducible refine box_walk rfl 35 (.tmp 0) rfl (rvC G (.slice Af nf cf) (.slice Ao no co) (.slice Al nl cl)) rfl ?_); intro w1 r1 b1 z1; have R1 := Lib.hid r1; have B1 := Lib.hid b1; have hlt1 := r1.lt; clear r1 b1 z1)
    | ((with_reducible refine alloc_walk (o := ⟨some 4, _, _, _, _, _⟩) rfl 35 rfl _ rv_zero ?_); go_must (intro w2 r2 b2 z2; have R2 := Lib.hid (R1.out.below b2); have Q2 := Lib.hid r2; have Z2 := Lib.hid z2; have B2 := Lib.hid (below_on B1.out b2); have c8 := R2.out.cell 8; have f8 := R2.out.soft 8; have c10 := R2.out.cell 10; have f10 := R2.out.soft 10; have c11 := R2.out.cell 11; have f11 := R2.out.soft 11; have c13 := R2.out.cell 13; have f13 := R2.out.soft 13; simp only [rvC, List.getElem?_cons_zero, List.getElem?_cons_succ] at c8 c10 c11 c13; rw [H1.out] at c11; have R3 : Hid (Row (w2.setCell ⟨w.heap.size, 13, none⟩ (.int .i64 (subW x G.tail))) w.heap.size 35 (rvC { G with left := subW x G.tail } (.slice Af nf cf) (.slice Ao no co) (.slice Al nl cl))) := Lib.hid (R2.out.put 13 (.int .i64 (subW x G.tail))); have Q3 : Hid (Row (w2.setCell ⟨w.heap.size, 13, none⟩ (.int .i64 (subW x G.tail))) w1.heap.size 35 rvZ) := Lib.hid (Q2.out.far (p := ⟨w.heap.size, 13, none⟩) (Nat.ne_of_gt hlt1) _); have B3 := Lib.hid (B2.out.setCell (p := ⟨w.heap.size, 13, none⟩) (Nat.le_refl _) (.int .i64 (subW x G.tail))); have L3 : Hid (RvL (w2.setCell ⟨w.heap.size, 13, none⟩ (.int .i64 (subW x G.tail))) (fun y => P y ∧ y < w.heap.size) { G with left := subW x G.tail } (.slice Af nf cf) (.slice Ao no co) (.slice Al nl cl)) := Lib.hid ⟨HR.out.free.below B3.out, HR.out.out.below B3.out, HR.out.load.below B3.out, HR.out.cf, HR.out.co, HR.out.cl⟩; have KR := Lib.hid (rroomy_any (fun y => P y ∧ y < w.heap.size) { G with left := subW x G.tail } _ L3.out HB.out); unfold RVP rvV at KR; clear r2 b2 z2))
    | (go_at_call 50; refine (KSB.out _).mono ?_; rintro e w7 ⟨rfl, rfl⟩)
    | (with_reducible refine loadRow_walk rfl 35 (.tmp 2) rfl w.heap.size rfl (rvC { G with left := subW x G.tail } (.slice Af nf cf) (.slice Ao no co) (.slice Al nl cl)) rv_struct (HSZ.out _ _ _ _) 35 R3.out ?_)
    | (go_at_call 52; refine KR.out.mono ?_; rintro e w10 ⟨Af2, nf2, cf2, Ao2, no2, co2, Al2, nl2, cl2, rfl, l10, b10⟩; have L10 := Lib.hid l10; have Q10 := Lib.hid (Q3.out.below b10); have B10 := Lib.hid (below_on B3.out b10); clear l10 b10)
    | ((with_reducible refine storeRow_walk rfl 35 (.tmp 4) (.tmp 59) rfl w1.heap.size rfl (rvC (rroo { G with left := subW x G.tail }) (.slice Af2 nf2 cf2) (.slice Ao2 no2 co2) (.slice Al2 nl2 cl2)) rfl (HSZ.out _ _ _ _) 35 rvZ Q10.out rfl (rv_one _) ?_); intro w4 r4 o4 z4; have R4 := Lib.hid r4; have N4 := Lib.hid o4; have B4 := Lib.hid (Only.below B10.out o4 B10.out.size (fun k hk e => by subst e; omega)); clear r4 o4 z4))
  have s1 := B1.out.size
  have s2 := Z2.out
  have s3 : w2.heap.size ≤ (w2.setCell ⟨w.heap.size, 13, none⟩ (.int .i64 (subW x G.tail))).heap.size := by simp
  exact bodyPost_ret (rv_results2 Tryd.results37 rfl rfl R4.out) rfl ⟨_, _, _, _, _, _, _, _, _, rfl, (L10.out.only N4.out (fun y e p => by rcases p with p | p <;> omega)).weak (fun y _ p => by rcases p with p | p; exact .inl p.1; exact .inr (by omega)), B4.out⟩
set_option maxRecDepth 100000 in
set_option maxHeartbeats 2000000 in
theorem raft_back (P : Nat → Prop) (G : Rv) (x : Int) (w : World) (r0 : RvL w P G (.slice Af nf cf) (.slice Ao no co) (.slice Al nl cl)) (hb : G.out.length ≤ 64) (hf : G.free.length ≤ 64) (hleft : 0 < G.left ∧ G.left ≤ 65535) (h : G.at_ = 7) :
    Calls Tryd.prog 37 #[rvV G (.slice Af nf cf) (.slice Ao no co) (.slice Al nl cl), .int .i64 x] w (RVA P (rbck G x) (-1) w) := by
  have HSZ := Lib.hid (fun (H : Rv) (a b c : Value) => (rv_size.trans (congrArg some (rv_len H a b c).symm)))
  obtain ⟨_, _, _, rf, hn2, hL2⟩ := lies_open r0.out
  injection rf with e1 e2 e3
  subst e1 e2 e3
  have k2 : G.out.length = no := hn2.out
  have HR := Lib.hid r0.old
  have H1 := Lib.hid h
  have HB := Lib.hid (And.intro hb (And.intro hf hleft))
  clear h hb hf hleft
  clear r0 hn2 hL2 k2
  unfold rvV
  go_enter Tryd.func37, Tryd.ntmps37
  go_wp2_with (first
    | ((with_reducible refine box_walk rfl 35 (.tmp 0) rfl (rvC G (.slice Af nf cf) (.slice Ao no co) (.slice Al nl cl)) rfl ?_); intro w1 r1 b1 z1; have R1 := Lib.hid r1; have B1 := Lib.hid b1; have hlt1 := r1.lt; clear r1 b1 z1)
    | ((with_reducible refine alloc_walk (o := ⟨some 4, _, _, _, _, _⟩) rfl 35 rfl _ rv_zero ?_); go_must (intro w2 r2 b2 z2; have R2 := Lib.hid (R1.out.below b2); have Q2 := Lib.hid r2; have Z2 := Lib.hid z2; have B2 := Lib.hid (below_on B1.out b2); have c11 := R2.out.cell 11; have f11 := R2.out.soft 11; simp only [rvC, List.getElem?_cons_zero, List.getElem?_cons_succ] at c11; rw [H1.out] at c11; have R3 : Hid (Row w2 w.heap.size 35 (rvC G (.slice Af nf cf) (.slice Ao no co) (.slice Al nl cl))) := Lib.hid R2.out; have Q3 : Hid (Row w2 w1.heap.size 35 rvZ) := Lib.hid Q2.out; have B3 := Lib.hid B2.out; have L3 : Hid (RvL w2 (fun y => P y ∧ y < w.heap.size) G (.slice Af nf cf) (.slice Ao no co) (.slice Al nl cl)) := Lib.hid ⟨HR.out.free.below B3.out, HR.out.out.below B3.out, HR.out.load.below B3.out, HR.out.cf, HR.out.co, HR.out.cl⟩; have KR := Lib.hid (rback_any (fun y => P y ∧ y < w.heap.size) G x _ L3.out HB.out.1 HB.out.2.1 HB.out.2.2); unfold RVP rvV at KR; clear r2 b2 z2))
    | (with_reducible refine loadRow_walk rfl 35 (.tmp 2) rfl w.heap.size rfl (rvC G (.slice Af nf cf) (.slice Ao no co) (.slice Al nl cl)) rv_struct (HSZ.out _ _ _ _) 35 R3.out ?_)
    | (go_at_call 53; refine KR.out.mono ?_; rintro e w10 ⟨Af2, nf2, cf2, Ao2, no2, co2, Al2, nl2, cl2, rfl, l10, b10⟩; have L10 := Lib.hid l10; have Q10 := Lib.hid (Q3.out.below b10); have B10 := Lib.hid (below_on B3.out b10); clear l10 b10)
    | ((with_reducible refine storeRow_walk rfl 35 (.tmp 4) (.tmp 64) rfl w1.heap.size rfl (rvC (rbck G x) (.slice Af2 nf2 cf2) (.slice Ao2 no2 co2) (.slice Al2 nl2 cl2)) rfl (HSZ.out _ _ _ _) 35 rvZ Q10.out rfl (rv_one _) ?_); intro w4 r4 o4 z4; have R4 := Lib.hid r4; have N4 := Lib.hid o4; have B4 := Lib.hid (Only.below B10.out o4 B10.out.size (fun k hk e => by subst e; omega)); clear r4 o4 z4))
  have s1 := B1.out.size
  have s2 := Z2.out
  have s3 : w2.heap.size ≤ w2.heap.size := by simp
  exact bodyPost_ret (rv_results2 Tryd.results37 rfl rfl R4.out) rfl ⟨_, _, _, _, _, _, _, _, _, rfl, (L10.out.only N4.out (fun y e p => by rcases p with p | p <;> omega)).weak (fun y _ p => by rcases p with p | p; exact .inl p.1; exact .inr (by omega)), B4.out⟩
/-- After in every state. -/
theorem raft_any (P : Nat → Prop) (G : Rv) (R : Nat) (x : Int) (w : World) (r : RvL w P G (.slice Af nf cf) (.slice Ao no co) (.slice Al nl cl)) (hR : G.R = (R : Int)) (h64 : R ≤ 64) (ha : 1 ≤ G.at_ ∧ G.at_ ≤ 15) (hb : G.out.length ≤ 64) (hf : G.free.length ≤ 64) (hleft : G.at_ = 7 → 0 < G.left ∧ G.left ≤ 65535) (hi : G.at_ = 8 → 0 ≤ G.i ∧ G.i ≤ 100) :
    Calls Tryd.prog 37 #[rvV G (.slice Af nf cf) (.slice Ao no co) (.slice Al nl cl), .int .i64 x] w (RVA P (raN G R x).1 (raN G R x).2 w) := by
  have keep : ∀ (G' : Rv) (n : Int), G'.free = G.free → G'.out = G.out → G'.load = G.load → ∀ e w', e = .returned (.tuple #[rvV G' (.slice Af nf cf) (.slice Ao no co) (.slice Al nl cl), .int .i64 n]) ∧ Below w.heap.size w w' → RVA P G' n w e w' := fun G' n h1 h2 h3 e w' ⟨he, b⟩ =>
    ⟨_, _, _, _, _, _, _, _, _, he, ⟨by rw [h1]; exact (r.free.below b).weak (fun _ _ h => .inl h), by rw [h2]; exact (r.out.below b).weak (fun _ _ h => .inl h), by rw [h3]; exact (r.load.below b).weak (fun _ _ h => .inl h), r.cf, r.co, r.cl⟩, b⟩
  obtain ⟨_, _, _, rf, hn3, -⟩ := lies_open r.load
  injection rf with e1 e2 e3
  have k3 : G.load.length = nl := by rw [e2]; exact hn3.out
  obtain ⟨_, _, _, rf, hn2, -⟩ := lies_open r.out
  injection rf with e1' e2' e3'
  have k2 : G.out.length = no := by rw [e2']; exact hn2.out
  clear e1 e2 e3 e1' e2' e3' hn2 hn3
  have cs : G.at_ = 1 ∨ G.at_ = 4 ∨ G.at_ = 5 ∨ G.at_ = 6 ∨ G.at_ = 7 ∨ G.at_ = 8 ∨ G.at_ = 14 ∨ G.at_ = 15 ∨ ((2 ≤ G.at_ ∧ G.at_ ≤ 3) ∨ (9 ≤ G.at_ ∧ G.at_ ≤ 13)) := by omega
  unfold raN
  rcases cs with a | a | a | a | a | a | a | a | a
  · rw [if_pos (show G.at_ = 1 by omega)]
    by_cases hx : x = G.known
    · rw [if_neg (fun f => f hx)]
      by_cases hl : G.linked = false
      · rw [if_pos hl]; exact (raft_ask_link G x w a hx hl).mono (keep { G with at_ := 5 } _ rfl rfl rfl)
      · rw [if_neg hl]; exact (raft_ask_room G x w a hx (by simpa using hl)).mono (keep { G with at_ := 6 } _ rfl rfl rfl)
    · rw [if_pos hx]
      exact (raft_ask G x w a hx).mono (keep _ _ rfl rfl rfl)
  · rw [if_neg (show ¬ G.at_ = 1 by omega), if_pos (show G.at_ = 4 by omega)]
    refine (raft_settle G x R hR h64 w a).mono ?_
    rintro e w' ⟨A, c, rfl, o, b⟩
    have hl : (upto16 R).length = R := upto16_len R
    exact ⟨_, _, _, _, _, _, _, _, _, rfl, ⟨(Lies.of_own o).weak (fun _ _ h => .inr h), Lies.nil_ _ _, Lies.nil_ _ _, CapOk.of_own o, rfl, rfl⟩, b⟩
  · rw [if_neg (show ¬ G.at_ = 1 by omega), if_neg (show ¬ G.at_ = 4 by omega), if_pos (show G.at_ = 5 by omega)]
    by_cases hx : x = addW G.own G.known
    · rw [if_pos hx]; exact (raft_link G x w a hx).mono (keep _ _ rfl rfl rfl)
    · rw [if_neg hx]; exact (raft_down G x w a hx).mono (keep _ _ rfl rfl rfl)
  · rw [if_neg (show ¬ G.at_ = 1 by omega), if_neg (show ¬ G.at_ = 4 by omega), if_neg (show ¬ G.at_ = 5 by omega), if_pos (show G.at_ = 6 by omega)]
    by_cases hx : (G.out.length : Int) < subW x G.tail
    · rw [if_pos hx]; exact (raft_room_bad G x w a (by rw [← k2]; exact hx)).mono (keep _ _ rfl rfl rfl)
    · rw [if_neg hx]; exact raft_room P G x w r hb a hx
  · rw [if_neg (show ¬ G.at_ = 1 by omega), if_neg (show ¬ G.at_ = 4 by omega), if_neg (show ¬ G.at_ = 5 by omega), if_neg (show ¬ G.at_ = 6 by omega), if_pos (show G.at_ = 7 by omega)]
    exact raft_back P G x w r hb hf (hleft a) a
  · rw [if_neg (show ¬ G.at_ = 1 by omega), if_neg (show ¬ G.at_ = 4 by omega), if_neg (show ¬ G.at_ = 5 by omega), if_neg (show ¬ G.at_ = 6 by omega), if_neg (show ¬ G.at_ = 7 by omega), if_pos (show G.at_ = 8 by omega)]
    by_cases hx : G.i + 1 < (G.load.length : Int)
    · rw [if_pos hx]; exact (raft_word G x w a (hi a) (by rw [← k3]; exact hx)).mono (keep _ _ rfl rfl rfl)
    · rw [if_neg hx]; exact (raft_word_end G x w a (hi a) (by rw [← k3]; omega)).mono (keep _ _ rfl rfl rfl)
  · rw [if_neg (show ¬ G.at_ = 1 by omega), if_neg (show ¬ G.at_ = 4 by omega), if_neg (show ¬ G.at_ = 5 by omega), if_neg (show ¬ G.at_ = 6 by omega), if_neg (show ¬ G.at_ = 7 by omega), if_neg (show ¬ G.at_ = 8 by omega), if_pos (show G.at_ = 14 by omega)]
    exact (raft_ring G x w a).mono (keep _ _ rfl rfl rfl)
  · rw [if_neg (show ¬ G.at_ = 1 by omega), if_neg (show ¬ G.at_ = 4 by omega), if_neg (show ¬ G.at_ = 5 by omega), if_neg (show ¬ G.at_ = 6 by omega), if_neg (show ¬ G.at_ = 7 by omega), if_neg (show ¬ G.at_ = 8 by omega), if_neg (show ¬ G.at_ = 14 by omega), if_pos (show G.at_ = 15 by omega)]
    by_cases hx : x = G.known
    · rw [if_neg (fun f => f hx)]
      by_cases hz : G.ans = 0
      · rw [if_pos hz]; exact (raft_over_ok G x w a hx hz).mono (keep _ _ rfl rfl rfl)
      · rw [if_neg hz]; exact (raft_over_bad G x w a hx hz).mono (keep _ _ rfl rfl rfl)
    · rw [if_pos hx]; exact (raft_over_reset G x w a hx).mono (keep _ _ rfl rfl rfl)
  · rw [if_neg (show ¬ G.at_ = 1 by omega), if_neg (show ¬ G.at_ = 4 by omega), if_neg (show ¬ G.at_ = 5 by omega), if_neg (show ¬ G.at_ = 6 by omega), if_neg (show ¬ G.at_ = 7 by omega), if_neg (show ¬ G.at_ = 8 by omega), if_neg (show ¬ G.at_ = 14 by omega), if_neg (show ¬ G.at_ = 15 by omega)]
    exact (raft_next G x w ⟨by omega, by omega⟩ (by simp; omega) (by simp; omega) (by simp; omega) (by simp; omega) (by simp; omega) (by simp; omega) (by simp; omega) (by simp; omega)).mono (keep _ _ rfl rfl rfl)
end
end

section
open Go.ChangeShapes Go.WideShapes Go.ChangeAt Go.RowKit
section
variable {Af Ao Al : Option Addr} {nf cf no co nl cl : Nat}
set_option maxRecDepth 100000 in
set_option maxHeartbeats 2000000 in
theorem rtch_back (G : Rv) (w : World) (hB : 0 ≤ G.B ∧ G.B ≤ 100000) (hR : 0 ≤ G.R ∧ G.R ≤ 64) (h : G.at_ = 7) (h0 : 0 ≤ G.tail) (h1 : 1 ≤ G.R) (m : Int) (hm : G.tail % G.R = m) :
    Calls Tryd.prog 36 #[rvV G (.slice Af nf cf) (.slice Ao no co) (.slice Al nl cl)] w fun e w' => e = .returned (touchV (1) (atV13 G.B G.R 6 m 0) (0)) ∧ Below w.heap.size w w' := by
  have HSZ := Lib.hid (fun (H : Rv) (a b c : Value) => (rv_size.trans (congrArg some (rv_len H a b c).symm)))
  have HS3 : Hid ((Tryd.prog.info? 50).map (·.size) = some ([.int .i64 (1), .int .i64 (atV13 G.B G.R 6 m 0), .int .i64 (0)] : List Value).length) := Lib.hid rt_size
  have HO3 : Hid (∀ v ∈ ([.int .i64 (1), .int .i64 (atV13 G.B G.R 6 m 0), .int .i64 (0)] : List Value), v.oneCell' = true) := Lib.hid (rt_one _ _ _)
  have KAD := Lib.hid (fun W => radd_any G.own G.known W)
  have KAT := Lib.hid (fun W => rat16_any (Af := Af) (nf := nf) (cf := cf) (Ao := Ao) (no := no) (co := co) (Al := Al) (nl := nl) (cl := cl) G 6 m 0 hB hR W)
  unfold rvV at KAT
  have H1 := Lib.hid h
  have hR0 : G.R ≠ 0 := by omega
  have hR1 : (G.R == 0) = false := by simpa using hR0
  have hm0 : 0 ≤ m ∧ m < 64 := by
    have h1 := Int.emod_nonneg G.tail hR0
    have h2 := Int.emod_lt_of_pos G.tail (show (0 : Int) < G.R by omega)
    omega
  have hmt : (G.tail).tmod G.R = m := by rw [Int.tmod_eq_emod_of_nonneg h0]; exact hm
  have hmw : wrap64 m = m := by rw [← IntWalk.i64_left, IntWalk.i64_in _ (by omega)]
  clear hm h0
  clear h
  clear hB hR
  unfold rvV
  go_enter Tryd.func36, Tryd.ntmps36
  go_wp2_with (first
    | ((with_reducible refine box_walk rfl 35 (.tmp 0) rfl (rvC G (.slice Af nf cf) (.slice Ao no co) (.slice Al nl cl)) rfl ?_); intro w1 r1 b1 z1; have R1 := Lib.hid r1; have B1 := Lib.hid b1; have hlt1 := r1.lt; clear r1 b1 z1)
    | ((with_reducible refine alloc_walk (o := ⟨some 2, _, _, _, _, _⟩) rfl 50 rfl _ rt_zero ?_); go_must (intro w2 r2 b2 z2; have R2 := Lib.hid (R1.out.below b2); have Q2 := Lib.hid r2; have B2 := Lib.hid (below_on B1.out b2); have c4 := R2.out.cell 4; have c5 := R2.out.cell 5; have c11 := R2.out.cell 11; have c15 := R2.out.cell 15; simp only [rvC, List.getElem?_cons_zero, List.getElem?_cons_succ] at c4 c5 c11 c15; rw [H1.out] at c11; clear r2 b2 z2))
    | (go_at_call 48; refine (KAD.out _).mono ?_; rintro e w7 ⟨rfl, rfl⟩))
  have hR : Row w2.drew w.heap.size 35 (rvC G (.slice Af nf cf) (.slice Ao no co) (.slice Al nl cl)) := R2.out
  have hQ : Row w2.drew w1.heap.size 50 (tcC 0 0 0) := Q2.out
  have hB : Below w.heap.size w w2.drew := B2.out.drew
  refine wp_region_held_drew (S := fun W => Row W w.heap.size 35 (rvC G (.slice Af nf cf) (.slice Ao no co) (.slice Al nl cl)) ∧ W.cell? ⟨w.heap.size, 1, none⟩ = some (.int .i64 G.R) ∧ W.cell? ⟨w.heap.size, 10, none⟩ = some (.int .i64 G.tail)) (by kernel_rfl) ⟨hR, hR.cell 1, hR.cell 10⟩ (fun hHeld => ?_)
  refine wpAnyH_take (i := 0) (oi := { dst := some 43, op := Go.Op.load 35 (Go.Operand.tmp 1), type := 35, pos := "ref.go:119", after := #[], guard := none }) (v := .agg (rvC G (.slice Af nf cf) (.slice Ao no co) (.slice Al nl cl)).toArray) rfl (by kernel_rfl) (by kernel_rfl) (by kernel_rfl) (fun _ _ _ h => h) (yieldsIf_row rfl 35 (.tmp 1) rfl w.heap.size rfl (rvC G (.slice Af nf cf) (.slice Ao no co) (.slice Al nl cl)) rv_struct (HSZ.out _ _ _ _) 35 (fun W h => h.1)) (by assumption) ?_
  try simp only [Act.put, List.setIfInBounds_toArray, List.set_cons_zero, List.set_cons_succ]
  refine' wpAnyH_take (i := 1) (oi := { dst := some 44, op := Go.Op.fieldAddr 35 (Go.Operand.tmp 1) 10, type := 0, pos := "ref.go:119", after := #[], guard := none }) (v := _) rfl (by kernel_rfl) (by kernel_rfl) (by kernel_rfl) (fun _ _ _ h => h) (Or.inl ⟨by rfl, ?hy2⟩) (by assumption) ?rest2
  case hy2 => (intro w hSw; (try dsimp only at hSw); go_simp; try with_reducible rfl)
  try simp only [Act.put, List.setIfInBounds_toArray, List.set_cons_zero, List.set_cons_succ]
  refine' wpAnyH_take (i := 2) (oi := { dst := some 45, op := Go.Op.load 3 (Go.Operand.tmp 44), type := 3, pos := "ref.go:119", after := #[{ on := 1, ground := Go.Ground.data }], guard := none }) (v := _) rfl (by kernel_rfl) (by kernel_rfl) (by kernel_rfl) (fun _ _ _ h => h) (Or.inl ⟨by rfl, ?hy3⟩) (by assumption) ?rest3
  case hy3 => (intro w hSw; (try dsimp only at hSw); go_simp; try with_reducible rfl)
  try simp only [Act.put, List.setIfInBounds_toArray, List.set_cons_zero, List.set_cons_succ]
  refine' wpAnyH_take (i := 3) (oi := { dst := some 46, op := Go.Op.fieldAddr 35 (Go.Operand.tmp 1) 1, type := 0, pos := "ref.go:119", after := #[], guard := none }) (v := _) rfl (by kernel_rfl) (by kernel_rfl) (by kernel_rfl) (fun _ _ _ h => h) (Or.inl ⟨by rfl, ?hy4⟩) (by assumption) ?rest4
  case hy4 => (intro w hSw; (try dsimp only at hSw); go_simp; try with_reducible rfl)
  try simp only [Act.put, List.setIfInBounds_toArray, List.set_cons_zero, List.set_cons_succ]
  refine' wpAnyH_take (i := 4) (oi := { dst := some 47, op := Go.Op.load 3 (Go.Operand.tmp 46), type := 3, pos := "ref.go:119", after := #[{ on := 3, ground := Go.Ground.data }], guard := none }) (v := _) rfl (by kernel_rfl) (by kernel_rfl) (by kernel_rfl) (fun _ _ _ h => h) (Or.inl ⟨by rfl, ?hy5⟩) (by assumption) ?rest5
  case hy5 => (intro w hSw; (try dsimp only at hSw); go_simp; try with_reducible rfl)
  try simp only [Act.put, List.setIfInBounds_toArray, List.set_cons_zero, List.set_cons_succ]
  refine' wpAnyH_take (i := 5) (oi := { dst := some 48, op := Go.Op.binOp Go.BinOp.rem 3 (Go.Operand.tmp 45) (Go.Operand.tmp 47) 3, type := 3, pos := "ref.go:119", after := #[{ on := 2, ground := Go.Ground.data }, { on := 4, ground := Go.Ground.data }], guard := none }) (v := _) rfl (by kernel_rfl) (by kernel_rfl) (by kernel_rfl) (fun _ _ _ h => h) (Or.inl ⟨by rfl, ?hy6⟩) (by assumption) ?rest6
  case hy6 => (intro w hSw; (try dsimp only at hSw); go_simp; try with_reducible rfl)
  try simp only [Act.put, List.setIfInBounds_toArray, List.set_cons_zero, List.set_cons_succ]
  refine wpAnyH_ready (rs := [6]) (by kernel_rfl) (by simp) ?_
  refine AllReadyH.cons (o := { dst := some 49, op := Go.Op.call { callee := Go.Callee.value (Go.Operand.func 49), args := #[Go.Operand.tmp 43, Go.Operand.const (Go.Value.int Go.IntKind.i64 6), Go.Operand.tmp 48, Go.Operand.const (Go.Value.int Go.IntKind.i64 0)], argTypes := #[35, 3, 3, 3] }, type := 3, pos := "ref.go:119", after := #[{ on := 0, ground := Go.Ground.data }, { on := 5, ground := Go.Ground.data }], guard := none }) rfl (fun K hK => ?_) AllReadyH.nil
  go_simp
  go_at_call 49
  refine (KAT.out _).mono ?_
  rintro e w8 ⟨rfl, b8⟩
  have h8 := hR.below b8
  have hQ8 := hQ.below b8
  have hB8 := below_on hB b8
  clear hR hQ hB
  obtain ⟨hR, hQ, hB⟩ : _ ∧ _ ∧ _ := ⟨h8, hQ8, hB8⟩
  go_wp2_with fail
  refine hK.out _ _ ⟨hR, hR.cell 1, hR.cell 10⟩ (fun _ => ?_)
  clear hK K
  try simp only [Act.put, List.setIfInBounds_toArray, List.set_cons_zero, List.set_cons_succ]
  refine' wpAnyH_take (i := 7) (oi := { dst := some 50, op := Go.Op.build 50 #[(0, Go.Operand.const (Go.Value.int Go.IntKind.i64 1)), (1, Go.Operand.tmp 49)], type := 50, pos := "ref.go:119", after := #[{ on := 6, ground := Go.Ground.data }], guard := none }) (v := _) rfl (by kernel_rfl) (by kernel_rfl) (by kernel_rfl) (fun _ _ _ h => h) (Or.inl ⟨by rfl, ?hy8⟩) (by assumption) ?rest8
  case hy8 => (intro w hSw; (try dsimp only at hSw); go_simp; try with_reducible rfl)
  try simp only [Act.put, List.setIfInBounds_toArray, List.set_cons_zero, List.set_cons_succ]
  refine wpAnyH_ready (rs := [8]) (by kernel_rfl) (by simp) ?_
  refine AllReadyH.cons (o := { dst := none, op := Go.Op.store 50 (Go.Operand.tmp 2) (Go.Operand.tmp 50), type := 0, pos := "ref.go:119", after := #[{ on := 7, ground := Go.Ground.data }, { on := 6, ground := Go.Ground.chain }, { on := 0, ground := Go.Ground.phase }, { on := 1, ground := Go.Ground.phase }, { on := 2, ground := Go.Ground.phase }, { on := 3, ground := Go.Ground.phase }, { on := 4, ground := Go.Ground.phase }, { on := 5, ground := Go.Ground.phase }, { on := 6, ground := Go.Ground.phase }, { on := 7, ground := Go.Ground.phase }], guard := none }) rfl (fun K hK => ?_) AllReadyH.nil
  refine storeRow_step rfl 50 (.tmp 2) (.tmp 50) rfl w1.heap.size rfl [.int .i64 (1), .int .i64 (atV13 G.B G.R 6 m 0), .int .i64 (0)] rfl HS3.out 50 (tcC 0 0 0) hQ rfl HO3.out ?_
  intro w4 r4 o4 z4
  have R4 : Hid (Row w4 w1.heap.size 50 (tcC (1) (atV13 G.B G.R 6 m 0) (0))) := Lib.hid r4
  have B4 := Lib.hid (Only.below hB o4 hB.size (fun k hk e => by subst e; omega))
  have h4 := hR.only o4 (fun e => by omega)
  refine hK.out _ _ ⟨h4, h4.cell 1, h4.cell 10⟩ (fun _ => ?_)
  clear hK K
  try simp only [Act.put]
  refine wpAnyH_done (by kernel_rfl) ?_ _
  go_wp2
  exact bodyPost_ret (rt_results Tryd.results36 rfl R4.out) rfl ⟨rfl, B4.out⟩
set_option maxRecDepth 100000 in
set_option maxHeartbeats 2000000 in
theorem rtch_offer (G : Rv) (w : World) (hB : 0 ≤ G.B ∧ G.B ≤ 100000) (hR : 0 ≤ G.R ∧ G.R ≤ 64) (h : G.at_ = 10) (h0 : 0 ≤ G.next) (h1 : 1 ≤ G.R) (m : Int) (hm : G.next % G.R = m) :
    Calls Tryd.prog 36 #[rvV G (.slice Af nf cf) (.slice Ao no co) (.slice Al nl cl)] w fun e w' => e = .returned (touchV (2) (atV13 G.B G.R 5 m 0) (G.d)) ∧ Below w.heap.size w w' := by
  have HSZ := Lib.hid (fun (H : Rv) (a b c : Value) => (rv_size.trans (congrArg some (rv_len H a b c).symm)))
  have HS3 : Hid ((Tryd.prog.info? 50).map (·.size) = some ([.int .i64 (2), .int .i64 (atV13 G.B G.R 5 m 0), .int .i64 (G.d)] : List Value).length) := Lib.hid rt_size
  have HO3 : Hid (∀ v ∈ ([.int .i64 (2), .int .i64 (atV13 G.B G.R 5 m 0), .int .i64 (G.d)] : List Value), v.oneCell' = true) := Lib.hid (rt_one _ _ _)
  have KAD := Lib.hid (fun W => radd_any G.own G.known W)
  have KAT := Lib.hid (fun W => rat16_any (Af := Af) (nf := nf) (cf := cf) (Ao := Ao) (no := no) (co := co) (Al := Al) (nl := nl) (cl := cl) G 5 m 0 hB hR W)
  unfold rvV at KAT
  have H1 := Lib.hid h
  have hR0 : G.R ≠ 0 := by omega
  have hR1 : (G.R == 0) = false := by simpa using hR0
  have hm0 : 0 ≤ m ∧ m < 64 := by
    have h1 := Int.emod_nonneg G.next hR0
    have h2 := Int.emod_lt_of_pos G.next (show (0 : Int) < G.R by omega)
    omega
  have hmt : (G.next).tmod G.R = m := by rw [Int.tmod_eq_emod_of_nonneg h0]; exact hm
  have hmw : wrap64 m = m := by rw [← IntWalk.i64_left, IntWalk.i64_in _ (by omega)]
  clear hm h0
  clear h
  clear hB hR
  unfold rvV
  go_enter Tryd.func36, Tryd.ntmps36
  go_wp2_with (first
    | ((with_reducible refine box_walk rfl 35 (.tmp 0) rfl (rvC G (.slice Af nf cf) (.slice Ao no co) (.slice Al nl cl)) rfl ?_); intro w1 r1 b1 z1; have R1 := Lib.hid r1; have B1 := Lib.hid b1; have hlt1 := r1.lt; clear r1 b1 z1)
    | ((with_reducible refine alloc_walk (o := ⟨some 2, _, _, _, _, _⟩) rfl 50 rfl _ rt_zero ?_); go_must (intro w2 r2 b2 z2; have R2 := Lib.hid (R1.out.below b2); have Q2 := Lib.hid r2; have B2 := Lib.hid (below_on B1.out b2); have c4 := R2.out.cell 4; have c5 := R2.out.cell 5; have c11 := R2.out.cell 11; have c15 := R2.out.cell 15; simp only [rvC, List.getElem?_cons_zero, List.getElem?_cons_succ] at c4 c5 c11 c15; rw [H1.out] at c11; clear r2 b2 z2))
    | (go_at_call 48; refine (KAD.out _).mono ?_; rintro e w7 ⟨rfl, rfl⟩))
  have hR : Row w2.drew w.heap.size 35 (rvC G (.slice Af nf cf) (.slice Ao no co) (.slice Al nl cl)) := R2.out
  have hQ : Row w2.drew w1.heap.size 50 (tcC 0 0 0) := Q2.out
  have hB : Below w.heap.size w w2.drew := B2.out.drew
  refine wp_region_held_drew (S := fun W => Row W w.heap.size 35 (rvC G (.slice Af nf cf) (.slice Ao no co) (.slice Al nl cl)) ∧ W.cell? ⟨w.heap.size, 1, none⟩ = some (.int .i64 G.R) ∧ W.cell? ⟨w.heap.size, 9, none⟩ = some (.int .i64 G.next)) (by kernel_rfl) ⟨hR, hR.cell 1, hR.cell 9⟩ (fun hHeld => ?_)
  refine wpAnyH_take (i := 0) (oi := { dst := some 76, op := Go.Op.load 35 (Go.Operand.tmp 1), type := 35, pos := "ref.go:125", after := #[], guard := none }) (v := .agg (rvC G (.slice Af nf cf) (.slice Ao no co) (.slice Al nl cl)).toArray) rfl (by kernel_rfl) (by kernel_rfl) (by kernel_rfl) (fun _ _ _ h => h) (yieldsIf_row rfl 35 (.tmp 1) rfl w.heap.size rfl (rvC G (.slice Af nf cf) (.slice Ao no co) (.slice Al nl cl)) rv_struct (HSZ.out _ _ _ _) 35 (fun W h => h.1)) (by assumption) ?_
  try simp only [Act.put, List.setIfInBounds_toArray, List.set_cons_zero, List.set_cons_succ]
  refine' wpAnyH_take (i := 1) (oi := { dst := some 77, op := Go.Op.fieldAddr 35 (Go.Operand.tmp 1) 9, type := 0, pos := "ref.go:125", after := #[], guard := none }) (v := _) rfl (by kernel_rfl) (by kernel_rfl) (by kernel_rfl) (fun _ _ _ h => h) (Or.inl ⟨by rfl, ?hy11⟩) (by assumption) ?rest11
  case hy11 => (intro w hSw; (try dsimp only at hSw); go_simp; try with_reducible rfl)
  try simp only [Act.put, List.setIfInBounds_toArray, List.set_cons_zero, List.set_cons_succ]
  refine' wpAnyH_take (i := 2) (oi := { dst := some 78, op := Go.Op.load 3 (Go.Operand.tmp 77), type := 3, pos := "ref.go:125", after := #[{ on := 1, ground := Go.Ground.data }], guard := none }) (v := _) rfl (by kernel_rfl) (by kernel_rfl) (by kernel_rfl) (fun _ _ _ h => h) (Or.inl ⟨by rfl, ?hy12⟩) (by assumption) ?rest12
  case hy12 => (intro w hSw; (try dsimp only at hSw); go_simp; try with_reducible rfl)
  try simp only [Act.put, List.setIfInBounds_toArray, List.set_cons_zero, List.set_cons_succ]
  refine' wpAnyH_take (i := 3) (oi := { dst := some 79, op := Go.Op.fieldAddr 35 (Go.Operand.tmp 1) 1, type := 0, pos := "ref.go:125", after := #[], guard := none }) (v := _) rfl (by kernel_rfl) (by kernel_rfl) (by kernel_rfl) (fun _ _ _ h => h) (Or.inl ⟨by rfl, ?hy13⟩) (by assumption) ?rest13
  case hy13 => (intro w hSw; (try dsimp only at hSw); go_simp; try with_reducible rfl)
  try simp only [Act.put, List.setIfInBounds_toArray, List.set_cons_zero, List.set_cons_succ]
  refine' wpAnyH_take (i := 4) (oi := { dst := some 80, op := Go.Op.load 3 (Go.Operand.tmp 79), type := 3, pos := "ref.go:125", after := #[{ on := 3, ground := Go.Ground.data }], guard := none }) (v := _) rfl (by kernel_rfl) (by kernel_rfl) (by kernel_rfl) (fun _ _ _ h => h) (Or.inl ⟨by rfl, ?hy14⟩) (by assumption) ?rest14
  case hy14 => (intro w hSw; (try dsimp only at hSw); go_simp; try with_reducible rfl)
  try simp only [Act.put, List.setIfInBounds_toArray, List.set_cons_zero, List.set_cons_succ]
  refine' wpAnyH_take (i := 5) (oi := { dst := some 81, op := Go.Op.binOp Go.BinOp.rem 3 (Go.Operand.tmp 78) (Go.Operand.tmp 80) 3, type := 3, pos := "ref.go:125", after := #[{ on := 2, ground := Go.Ground.data }, { on := 4, ground := Go.Ground.data }], guard := none }) (v := _) rfl (by kernel_rfl) (by kernel_rfl) (by kernel_rfl) (fun _ _ _ h => h) (Or.inl ⟨by rfl, ?hy15⟩) (by assumption) ?rest15
  case hy15 => (intro w hSw; (try dsimp only at hSw); go_simp; try with_reducible rfl)
  try simp only [Act.put, List.setIfInBounds_toArray, List.set_cons_zero, List.set_cons_succ]
  refine' wpAnyH_take (i := 7) (oi := { dst := some 83, op := Go.Op.move (Go.Operand.tmp 4), type := 3, pos := "ref.go:125", after := #[], guard := none }) (v := _) rfl (by kernel_rfl) (by kernel_rfl) (by kernel_rfl) (fun _ _ _ h => h) (Or.inl ⟨by rfl, ?hy17⟩) (by assumption) ?rest17
  case hy17 => (intro w hSw; (try dsimp only at hSw); go_simp; try with_reducible rfl)
  try simp only [Act.put, List.setIfInBounds_toArray, List.set_cons_zero, List.set_cons_succ]
  refine wpAnyH_ready (rs := [6]) (by kernel_rfl) (by simp) ?_
  refine AllReadyH.cons (o := { dst := some 82, op := Go.Op.call { callee := Go.Callee.value (Go.Operand.func 49), args := #[Go.Operand.tmp 76, Go.Operand.const (Go.Value.int Go.IntKind.i64 5), Go.Operand.tmp 81, Go.Operand.const (Go.Value.int Go.IntKind.i64 0)], argTypes := #[35, 3, 3, 3] }, type := 3, pos := "ref.go:125", after := #[{ on := 0, ground := Go.Ground.data }, { on := 5, ground := Go.Ground.data }], guard := none }) rfl (fun K hK => ?_) AllReadyH.nil
  go_simp
  go_at_call 49
  refine (KAT.out _).mono ?_
  rintro e w8 ⟨rfl, b8⟩
  have h8 := hR.below b8
  have hQ8 := hQ.below b8
  have hB8 := below_on hB b8
  clear hR hQ hB
  obtain ⟨hR, hQ, hB⟩ : _ ∧ _ ∧ _ := ⟨h8, hQ8, hB8⟩
  go_wp2_with fail
  refine hK.out _ _ ⟨hR, hR.cell 1, hR.cell 9⟩ (fun _ => ?_)
  clear hK K
  try simp only [Act.put, List.setIfInBounds_toArray, List.set_cons_zero, List.set_cons_succ]
  refine' wpAnyH_take (i := 8) (oi := { dst := some 84, op := Go.Op.build 50 #[(0, Go.Operand.const (Go.Value.int Go.IntKind.i64 2)), (1, Go.Operand.tmp 82), (2, Go.Operand.tmp 83)], type := 50, pos := "ref.go:125", after := #[{ on := 6, ground := Go.Ground.data }, { on := 7, ground := Go.Ground.data }], guard := none }) (v := _) rfl (by kernel_rfl) (by kernel_rfl) (by kernel_rfl) (fun _ _ _ h => h) (Or.inl ⟨by rfl, ?hy19⟩) (by assumption) ?rest19
  case hy19 => (intro w hSw; (try dsimp only at hSw); go_simp; try with_reducible rfl)
  try simp only [Act.put, List.setIfInBounds_toArray, List.set_cons_zero, List.set_cons_succ]
  refine wpAnyH_ready (rs := [9]) (by kernel_rfl) (by simp) ?_
  refine AllReadyH.cons (o := { dst := none, op := Go.Op.store 50 (Go.Operand.tmp 2) (Go.Operand.tmp 84), type := 0, pos := "ref.go:125", after := #[{ on := 8, ground := Go.Ground.data }, { on := 6, ground := Go.Ground.chain }, { on := 0, ground := Go.Ground.phase }, { on := 1, ground := Go.Ground.phase }, { on := 2, ground := Go.Ground.phase }, { on := 3, ground := Go.Ground.phase }, { on := 4, ground := Go.Ground.phase }, { on := 5, ground := Go.Ground.phase }, { on := 6, ground := Go.Ground.phase }, { on := 7, ground := Go.Ground.phase }, { on := 8, ground := Go.Ground.phase }], guard := none }) rfl (fun K hK => ?_) AllReadyH.nil
  refine storeRow_step rfl 50 (.tmp 2) (.tmp 84) rfl w1.heap.size rfl [.int .i64 (2), .int .i64 (atV13 G.B G.R 5 m 0), .int .i64 (G.d)] rfl HS3.out 50 (tcC 0 0 0) hQ rfl HO3.out ?_
  intro w4 r4 o4 z4
  have R4 : Hid (Row w4 w1.heap.size 50 (tcC (2) (atV13 G.B G.R 5 m 0) (G.d))) := Lib.hid r4
  have B4 := Lib.hid (Only.below hB o4 hB.size (fun k hk e => by subst e; omega))
  have h4 := hR.only o4 (fun e => by omega)
  refine hK.out _ _ ⟨h4, h4.cell 1, h4.cell 9⟩ (fun _ => ?_)
  clear hK K
  try simp only [Act.put]
  refine wpAnyH_done (by kernel_rfl) ?_ _
  go_wp2
  exact bodyPost_ret (rt_results Tryd.results36 rfl R4.out) rfl ⟨rfl, B4.out⟩
set_option maxRecDepth 100000 in
set_option maxHeartbeats 2000000 in
theorem rtch_size (G : Rv) (w : World) (hB : 0 ≤ G.B ∧ G.B ≤ 100000) (hR : 0 ≤ G.R ∧ G.R ≤ 64) (h : G.at_ = 9) :
    Calls Tryd.prog 36 #[rvV G (.slice Af nf cf) (.slice Ao no co) (.slice Al nl cl)] w fun e w' => e = .returned (touchV (2) (atV13 G.B G.R 7 G.d 0) ((nl : Int))) ∧ Below w.heap.size w w' := by
  have HSZ := Lib.hid (fun (H : Rv) (a b c : Value) => (rv_size.trans (congrArg some (rv_len H a b c).symm)))
  have HS3 : Hid ((Tryd.prog.info? 50).map (·.size) = some ([.int .i64 (2), .int .i64 (atV13 G.B G.R 7 G.d 0), .int .i64 ((nl : Int))] : List Value).length) := Lib.hid rt_size
  have HO3 : Hid (∀ v ∈ ([.int .i64 (2), .int .i64 (atV13 G.B G.R 7 G.d 0), .int .i64 ((nl : Int))] : List Value), v.oneCell' = true) := Lib.hid (rt_one _ _ _)
  have KAD := Lib.hid (fun W => radd_any G.own G.known W)
  have KAT := Lib.hid (fun W => rat16_any (Af := Af) (nf := nf) (cf := cf) (Ao := Ao) (no := no) (co := co) (Al := Al) (nl := nl) (cl := cl) G 7 G.d 0 hB hR W)
  unfold rvV at KAT
  have H1 := Lib.hid h
  clear h
  clear hB hR
  unfold rvV
  go_enter Tryd.func36, Tryd.ntmps36
  go_wp2_with (first
    | ((with_reducible refine box_walk rfl 35 (.tmp 0) rfl (rvC G (.slice Af nf cf) (.slice Ao no co) (.slice Al nl cl)) rfl ?_); intro w1 r1 b1 z1; have R1 := Lib.hid r1; have B1 := Lib.hid b1; have hlt1 := r1.lt; clear r1 b1 z1)
    | ((with_reducible refine alloc_walk (o := ⟨some 2, _, _, _, _, _⟩) rfl 50 rfl _ rt_zero ?_); go_must (intro w2 r2 b2 z2; have R2 := Lib.hid (R1.out.below b2); have Q2 := Lib.hid r2; have B2 := Lib.hid (below_on B1.out b2); have c4 := R2.out.cell 4; have c5 := R2.out.cell 5; have c11 := R2.out.cell 11; have c15 := R2.out.cell 15; simp only [rvC, List.getElem?_cons_zero, List.getElem?_cons_succ] at c4 c5 c11 c15; rw [H1.out] at c11; clear r2 b2 z2))
    | (go_at_call 48; refine (KAD.out _).mono ?_; rintro e w7 ⟨rfl, rfl⟩))
  have hR : Row w2.drew w.heap.size 35 (rvC G (.slice Af nf cf) (.slice Ao no co) (.slice Al nl cl)) := R2.out
  have hQ : Row w2.drew w1.heap.size 50 (tcC 0 0 0) := Q2.out
  have hB : Below w.heap.size w w2.drew := B2.out.drew
  refine wp_region_held_drew (S := fun W => Row W w.heap.size 35 (rvC G (.slice Af nf cf) (.slice Ao no co) (.slice Al nl cl)) ∧ W.cell? ⟨w.heap.size, 16, none⟩ = some (.slice Al nl cl)) (by kernel_rfl) ⟨hR, hR.cell 16⟩ (fun hHeld => ?_)
  refine wpAnyH_take (i := 0) (oi := { dst := some 67, op := Go.Op.load 35 (Go.Operand.tmp 1), type := 35, pos := "ref.go:123", after := #[], guard := none }) (v := .agg (rvC G (.slice Af nf cf) (.slice Ao no co) (.slice Al nl cl)).toArray) rfl (by kernel_rfl) (by kernel_rfl) (by kernel_rfl) (fun _ _ _ h => h) (yieldsIf_row rfl 35 (.tmp 1) rfl w.heap.size rfl (rvC G (.slice Af nf cf) (.slice Ao no co) (.slice Al nl cl)) rv_struct (HSZ.out _ _ _ _) 35 (fun W h => h.1)) (by assumption) ?_
  try simp only [Act.put, List.setIfInBounds_toArray, List.set_cons_zero, List.set_cons_succ]
  refine' wpAnyH_take (i := 1) (oi := { dst := some 68, op := Go.Op.move (Go.Operand.tmp 4), type := 3, pos := "ref.go:123", after := #[], guard := none }) (v := _) rfl (by kernel_rfl) (by kernel_rfl) (by kernel_rfl) (fun _ _ _ h => h) (Or.inl ⟨by rfl, ?hy22⟩) (by assumption) ?rest22
  case hy22 => (intro w hSw; (try dsimp only at hSw); go_simp; try with_reducible rfl)
  try simp only [Act.put, List.setIfInBounds_toArray, List.set_cons_zero, List.set_cons_succ]
  refine' wpAnyH_take (i := 3) (oi := { dst := some 70, op := Go.Op.fieldAddr 35 (Go.Operand.tmp 1) 16, type := 0, pos := "ref.go:123", after := #[], guard := none }) (v := _) rfl (by kernel_rfl) (by kernel_rfl) (by kernel_rfl) (fun _ _ _ h => h) (Or.inl ⟨by rfl, ?hy24⟩) (by assumption) ?rest24
  case hy24 => (intro w hSw; (try dsimp only at hSw); go_simp; try with_reducible rfl)
  try simp only [Act.put, List.setIfInBounds_toArray, List.set_cons_zero, List.set_cons_succ]
  refine' wpAnyH_take (i := 4) (oi := { dst := some 71, op := Go.Op.load 33 (Go.Operand.tmp 70), type := 33, pos := "ref.go:123", after := #[{ on := 3, ground := Go.Ground.data }], guard := none }) (v := _) rfl (by kernel_rfl) (by kernel_rfl) (by kernel_rfl) (fun _ _ _ h => h) (Or.inl ⟨by rfl, ?hy26⟩) (by assumption) ?rest26
  case hy26 => (intro w hSw; (try dsimp only at hSw); go_simp; try with_reducible rfl)
  try simp only [Act.put, List.setIfInBounds_toArray, List.set_cons_zero, List.set_cons_succ]
  refine' wpAnyH_take (i := 5) (oi := { dst := some 72, op := Go.Op.call { callee := Go.Callee.builtin Go.Builtin.len, args := #[Go.Operand.tmp 71], argTypes := #[33] }, type := 3, pos := "ref.go:123", after := #[{ on := 4, ground := Go.Ground.data }], guard := none }) (v := _) rfl (by kernel_rfl) (by kernel_rfl) (by kernel_rfl) (fun _ _ _ h => h) (Or.inl ⟨by rfl, ?hy28⟩) (by assumption) ?rest28
  case hy28 => (intro w hSw; (try dsimp only at hSw); go_simp; try with_reducible rfl)
  try simp only [Act.put, List.setIfInBounds_toArray, List.set_cons_zero, List.set_cons_succ]
  refine wpAnyH_ready (rs := [2]) (by kernel_rfl) (by simp) ?_
  refine AllReadyH.cons (o := { dst := some 69, op := Go.Op.call { callee := Go.Callee.value (Go.Operand.func 49), args := #[Go.Operand.tmp 67, Go.Operand.const (Go.Value.int Go.IntKind.i64 7), Go.Operand.tmp 68, Go.Operand.const (Go.Value.int Go.IntKind.i64 0)], argTypes := #[35, 3, 3, 3] }, type := 3, pos := "ref.go:123", after := #[{ on := 0, ground := Go.Ground.data }, { on := 1, ground := Go.Ground.data }], guard := none }) rfl (fun K hK => ?_) AllReadyH.nil
  go_simp
  go_at_call 49
  refine (KAT.out _).mono ?_
  rintro e w8 ⟨rfl, b8⟩
  have h8 := hR.below b8
  have hQ8 := hQ.below b8
  have hB8 := below_on hB b8
  clear hR hQ hB
  obtain ⟨hR, hQ, hB⟩ : _ ∧ _ ∧ _ := ⟨h8, hQ8, hB8⟩
  go_wp2_with fail
  refine hK.out _ _ ⟨hR, hR.cell 16⟩ (fun _ => ?_)
  clear hK K
  try simp only [Act.put, List.setIfInBounds_toArray, List.set_cons_zero, List.set_cons_succ]
  refine' wpAnyH_take (i := 6) (oi := { dst := some 73, op := Go.Op.build 50 #[(0, Go.Operand.const (Go.Value.int Go.IntKind.i64 2)), (1, Go.Operand.tmp 69), (2, Go.Operand.tmp 72)], type := 50, pos := "ref.go:123", after := #[{ on := 2, ground := Go.Ground.data }, { on := 5, ground := Go.Ground.data }], guard := none }) (v := _) rfl (by kernel_rfl) (by kernel_rfl) (by kernel_rfl) (fun _ _ _ h => h) (Or.inl ⟨by rfl, ?hy30⟩) (by assumption) ?rest30
  case hy30 => (intro w hSw; (try dsimp only at hSw); go_simp; try with_reducible rfl)
  try simp only [Act.put, List.setIfInBounds_toArray, List.set_cons_zero, List.set_cons_succ]
  refine wpAnyH_ready (rs := [7]) (by kernel_rfl) (by simp) ?_
  refine AllReadyH.cons (o := { dst := none, op := Go.Op.store 50 (Go.Operand.tmp 2) (Go.Operand.tmp 73), type := 0, pos := "ref.go:123", after := #[{ on := 6, ground := Go.Ground.data }, { on := 2, ground := Go.Ground.chain }, { on := 0, ground := Go.Ground.phase }, { on := 1, ground := Go.Ground.phase }, { on := 2, ground := Go.Ground.phase }, { on := 3, ground := Go.Ground.phase }, { on := 4, ground := Go.Ground.phase }, { on := 5, ground := Go.Ground.phase }, { on := 6, ground := Go.Ground.phase }], guard := none }) rfl (fun K hK => ?_) AllReadyH.nil
  refine storeRow_step rfl 50 (.tmp 2) (.tmp 73) rfl w1.heap.size rfl [.int .i64 (2), .int .i64 (atV13 G.B G.R 7 G.d 0), .int .i64 ((nl : Int))] rfl HS3.out 50 (tcC 0 0 0) hQ rfl HO3.out ?_
  intro w4 r4 o4 z4
  have R4 : Hid (Row w4 w1.heap.size 50 (tcC (2) (atV13 G.B G.R 7 G.d 0) ((nl : Int)))) := Lib.hid r4
  have B4 := Lib.hid (Only.below hB o4 hB.size (fun k hk e => by subst e; omega))
  have h4 := hR.only o4 (fun e => by omega)
  refine hK.out _ _ ⟨h4, h4.cell 16⟩ (fun _ => ?_)
  clear hK K
  try simp only [Act.put]
  refine wpAnyH_done (by kernel_rfl) ?_ _
  go_wp2
  exact bodyPost_ret (rt_results Tryd.results36 rfl R4.out) rfl ⟨rfl, B4.out⟩
set_option maxRecDepth 100000 in
set_option maxHeartbeats 2000000 in
theorem rtch_show (G : Rv) (w : World) (hB : 0 ≤ G.B ∧ G.B ≤ 100000) (hR : 0 ≤ G.R ∧ G.R ≤ 64) (h : G.at_ = 12) :
    Calls Tryd.prog 36 #[rvV G (.slice Af nf cf) (.slice Ao no co) (.slice Al nl cl)] w fun e w' => e = .returned (touchV (2) (atV13 G.B G.R 3 0 0) (addW G.next 1)) ∧ Below w.heap.size w w' := by
  have HSZ := Lib.hid (fun (H : Rv) (a b c : Value) => (rv_size.trans (congrArg some (rv_len H a b c).symm)))
  have HS3 : Hid ((Tryd.prog.info? 50).map (·.size) = some ([.int .i64 (2), .int .i64 (atV13 G.B G.R 3 0 0), .int .i64 (addW G.next 1)] : List Value).length) := Lib.hid rt_size
  have HO3 : Hid (∀ v ∈ ([.int .i64 (2), .int .i64 (atV13 G.B G.R 3 0 0), .int .i64 (addW G.next 1)] : List Value), v.oneCell' = true) := Lib.hid (rt_one _ _ _)
  have KAD := Lib.hid (fun W => radd_any G.own G.known W)
  have KAT := Lib.hid (fun W => rat16_any (Af := Af) (nf := nf) (cf := cf) (Ao := Ao) (no := no) (co := co) (Al := Al) (nl := nl) (cl := cl) G 3 0 0 hB hR W)
  unfold rvV at KAT
  have H1 := Lib.hid h
  have KA2 := Lib.hid (fun W => radd_any G.next 1 W)
  clear h
  clear hB hR
  unfold rvV
  go_enter Tryd.func36, Tryd.ntmps36
  go_wp2_with (first
    | ((with_reducible refine box_walk rfl 35 (.tmp 0) rfl (rvC G (.slice Af nf cf) (.slice Ao no co) (.slice Al nl cl)) rfl ?_); intro w1 r1 b1 z1; have R1 := Lib.hid r1; have B1 := Lib.hid b1; have hlt1 := r1.lt; clear r1 b1 z1)
    | ((with_reducible refine alloc_walk (o := ⟨some 2, _, _, _, _, _⟩) rfl 50 rfl _ rt_zero ?_); go_must (intro w2 r2 b2 z2; have R2 := Lib.hid (R1.out.below b2); have Q2 := Lib.hid r2; have B2 := Lib.hid (below_on B1.out b2); have c4 := R2.out.cell 4; have c5 := R2.out.cell 5; have c11 := R2.out.cell 11; have c15 := R2.out.cell 15; simp only [rvC, List.getElem?_cons_zero, List.getElem?_cons_succ] at c4 c5 c11 c15; rw [H1.out] at c11; clear r2 b2 z2))
    | (go_at_call 48; refine (KAD.out _).mono ?_; rintro e w7 ⟨rfl, rfl⟩))
  have hR : Row w2.drew w.heap.size 35 (rvC G (.slice Af nf cf) (.slice Ao no co) (.slice Al nl cl)) := R2.out
  have hQ : Row w2.drew w1.heap.size 50 (tcC 0 0 0) := Q2.out
  have hB : Below w.heap.size w w2.drew := B2.out.drew
  refine wp_region_held_drew (S := fun W => Row W w.heap.size 35 (rvC G (.slice Af nf cf) (.slice Ao no co) (.slice Al nl cl)) ∧ W.cell? ⟨w.heap.size, 9, none⟩ = some (.int .i64 G.next)) (by kernel_rfl) ⟨hR, hR.cell 9⟩ (fun hHeld => ?_)
  refine wpAnyH_take (i := 0) (oi := { dst := some 87, op := Go.Op.load 35 (Go.Operand.tmp 1), type := 35, pos := "ref.go:127", after := #[], guard := none }) (v := .agg (rvC G (.slice Af nf cf) (.slice Ao no co) (.slice Al nl cl)).toArray) rfl (by kernel_rfl) (by kernel_rfl) (by kernel_rfl) (fun _ _ _ h => h) (yieldsIf_row rfl 35 (.tmp 1) rfl w.heap.size rfl (rvC G (.slice Af nf cf) (.slice Ao no co) (.slice Al nl cl)) rv_struct (HSZ.out _ _ _ _) 35 (fun W h => h.1)) (by assumption) ?_
  try simp only [Act.put, List.setIfInBounds_toArray, List.set_cons_zero, List.set_cons_succ]
  refine' wpAnyH_take (i := 2) (oi := { dst := some 89, op := Go.Op.fieldAddr 35 (Go.Operand.tmp 1) 9, type := 0, pos := "ref.go:127", after := #[], guard := none }) (v := _) rfl (by kernel_rfl) (by kernel_rfl) (by kernel_rfl) (fun _ _ _ h => h) (Or.inl ⟨by rfl, ?hy34⟩) (by assumption) ?rest34
  case hy34 => (intro w hSw; (try dsimp only at hSw); go_simp; try with_reducible rfl)
  try simp only [Act.put, List.setIfInBounds_toArray, List.set_cons_zero, List.set_cons_succ]
  refine' wpAnyH_take (i := 3) (oi := { dst := some 90, op := Go.Op.load 3 (Go.Operand.tmp 89), type := 3, pos := "ref.go:127", after := #[{ on := 2, ground := Go.Ground.data }], guard := none }) (v := _) rfl (by kernel_rfl) (by kernel_rfl) (by kernel_rfl) (fun _ _ _ h => h) (Or.inl ⟨by rfl, ?hy36⟩) (by assumption) ?rest36
  case hy36 => (intro w hSw; (try dsimp only at hSw); go_simp; try with_reducible rfl)
  try simp only [Act.put, List.setIfInBounds_toArray, List.set_cons_zero, List.set_cons_succ]
  refine wpAnyH_ready (rs := [1]) (by kernel_rfl) (by simp) ?_
  refine AllReadyH.cons (o := { dst := some 88, op := Go.Op.call { callee := Go.Callee.value (Go.Operand.func 49), args := #[Go.Operand.tmp 87, Go.Operand.const (Go.Value.int Go.IntKind.i64 3), Go.Operand.const (Go.Value.int Go.IntKind.i64 0), Go.Operand.const (Go.Value.int Go.IntKind.i64 0)], argTypes := #[35, 3, 3, 3] }, type := 3, pos := "ref.go:127", after := #[{ on := 0, ground := Go.Ground.data }], guard := none }) rfl (fun K hK => ?_) AllReadyH.nil
  go_simp
  go_at_call 49
  refine (KAT.out _).mono ?_
  rintro e w8 ⟨rfl, b8⟩
  have h8 := hR.below b8
  have hQ8 := hQ.below b8
  have hB8 := below_on hB b8
  clear hR hQ hB
  obtain ⟨hR, hQ, hB⟩ : _ ∧ _ ∧ _ := ⟨h8, hQ8, hB8⟩
  go_wp2_with fail
  refine hK.out _ _ ⟨hR, hR.cell 9⟩ (fun _ => ?_)
  clear hK K
  try simp only [Act.put, List.setIfInBounds_toArray, List.set_cons_zero, List.set_cons_succ]
  refine wpAnyH_ready (rs := [4]) (by kernel_rfl) (by simp) ?_
  refine AllReadyH.cons (o := { dst := some 91, op := Go.Op.call { callee := Go.Callee.value (Go.Operand.func 48), args := #[Go.Operand.tmp 90, Go.Operand.const (Go.Value.int Go.IntKind.i64 1)], argTypes := #[3, 3] }, type := 3, pos := "ref.go:127", after := #[{ on := 3, ground := Go.Ground.data }, { on := 1, ground := Go.Ground.chain }], guard := none }) rfl (fun K hK => ?_) AllReadyH.nil
  go_simp
  go_at_call 48
  refine (KA2.out _).mono ?_
  rintro e w7 ⟨rfl, rfl⟩
  go_wp2_with fail
  refine hK.out _ _ ⟨hR, hR.cell 9⟩ (fun _ => ?_)
  clear hK K
  try simp only [Act.put, List.setIfInBounds_toArray, List.set_cons_zero, List.set_cons_succ]
  refine' wpAnyH_take (i := 5) (oi := { dst := some 92, op := Go.Op.build 50 #[(0, Go.Operand.const (Go.Value.int Go.IntKind.i64 2)), (1, Go.Operand.tmp 88), (2, Go.Operand.tmp 91)], type := 50, pos := "ref.go:127", after := #[{ on := 1, ground := Go.Ground.data }, { on := 4, ground := Go.Ground.data }], guard := none }) (v := _) rfl (by kernel_rfl) (by kernel_rfl) (by kernel_rfl) (fun _ _ _ h => h) (Or.inl ⟨by rfl, ?hy39⟩) (by assumption) ?rest39
  case hy39 => (intro w hSw; (try dsimp only at hSw); go_simp; try with_reducible rfl)
  try simp only [Act.put, List.setIfInBounds_toArray, List.set_cons_zero, List.set_cons_succ]
  refine wpAnyH_ready (rs := [6]) (by kernel_rfl) (by simp) ?_
  refine AllReadyH.cons (o := { dst := none, op := Go.Op.store 50 (Go.Operand.tmp 2) (Go.Operand.tmp 92), type := 0, pos := "ref.go:127", after := #[{ on := 5, ground := Go.Ground.data }, { on := 4, ground := Go.Ground.chain }, { on := 0, ground := Go.Ground.phase }, { on := 1, ground := Go.Ground.phase }, { on := 2, ground := Go.Ground.phase }, { on := 3, ground := Go.Ground.phase }, { on := 4, ground := Go.Ground.phase }, { on := 5, ground := Go.Ground.phase }], guard := none }) rfl (fun K hK => ?_) AllReadyH.nil
  refine storeRow_step rfl 50 (.tmp 2) (.tmp 92) rfl w1.heap.size rfl [.int .i64 (2), .int .i64 (atV13 G.B G.R 3 0 0), .int .i64 (addW G.next 1)] rfl HS3.out 50 (tcC 0 0 0) hQ rfl HO3.out ?_
  intro w4 r4 o4 z4
  have R4 : Hid (Row w4 w1.heap.size 50 (tcC (2) (atV13 G.B G.R 3 0 0) (addW G.next 1))) := Lib.hid r4
  have B4 := Lib.hid (Only.below hB o4 hB.size (fun k hk e => by subst e; omega))
  have h4 := hR.only o4 (fun e => by omega)
  refine hK.out _ _ ⟨h4, h4.cell 9⟩ (fun _ => ?_)
  clear hK K
  try simp only [Act.put]
  refine wpAnyH_done (by kernel_rfl) ?_ _
  go_wp2
  exact bodyPost_ret (rt_results Tryd.results36 rfl R4.out) rfl ⟨rfl, B4.out⟩
set_option maxRecDepth 100000 in
set_option maxHeartbeats 2000000 in
theorem rtch_word (G : Rv) (w : World) (hB : 0 ≤ G.B ∧ G.B ≤ 100000) (hR : 0 ≤ G.R ∧ G.R ≤ 64) (h : G.at_ = 8) (i : Nat) (x : Int) (hGi : G.i = (i : Int)) (hin : i < nl) (gl ol : Nat) (hXlt : gl < w.heap.size) (hXc : w.cell? ⟨gl, ol + i, none⟩ = some (.int .i64 x)) :
    Calls Tryd.prog 36 #[rvV G (.slice Af nf cf) (.slice Ao no co) (.slice (some ⟨gl, ol, none⟩) nl cl)] w fun e w' => e = .returned (touchV (2) (atV13 G.B G.R 8 G.d (i : Int)) (x)) ∧ Below w.heap.size w w' := by
  have HSZ := Lib.hid (fun (H : Rv) (a b c : Value) => (rv_size.trans (congrArg some (rv_len H a b c).symm)))
  have HS3 : Hid ((Tryd.prog.info? 50).map (·.size) = some ([.int .i64 (2), .int .i64 (atV13 G.B G.R 8 G.d (i : Int)), .int .i64 (x)] : List Value).length) := Lib.hid rt_size
  have HO3 : Hid (∀ v ∈ ([.int .i64 (2), .int .i64 (atV13 G.B G.R 8 G.d (i : Int)), .int .i64 (x)] : List Value), v.oneCell' = true) := Lib.hid (rt_one _ _ _)
  have KAD := Lib.hid (fun W => radd_any G.own G.known W)
  have KAT := Lib.hid (fun W => rat16_any (Af := Af) (nf := nf) (cf := cf) (Ao := Ao) (no := no) (co := co) (Al := some ⟨gl, ol, none⟩) (nl := nl) (cl := cl) G 8 G.d (i : Int) hB hR W)
  unfold rvV at KAT
  have H1 := Lib.hid h
  have HXC := Lib.hid hXc
  have HI12 : Hid ((rvC G (.slice Af nf cf) (.slice Ao no co) (.slice (some ⟨gl, ol, none⟩) nl cl))[12]? = some (.int .i64 (i : Int))) := Lib.hid (by rw [← hGi]; rfl)
  have g0 : (0 : Int) ≤ (i : Int) := by omega
  have g1 : (i : Int) < (nl : Int) := by omega
  clear hXc hGi
  clear h
  clear hB hR
  unfold rvV
  go_enter Tryd.func36, Tryd.ntmps36
  go_wp2_with (first
    | ((with_reducible refine box_walk rfl 35 (.tmp 0) rfl (rvC G (.slice Af nf cf) (.slice Ao no co) (.slice (some ⟨gl, ol, none⟩) nl cl)) rfl ?_); intro w1 r1 b1 z1; have R1 := Lib.hid r1; have B1 := Lib.hid b1; have hlt1 := r1.lt; clear r1 b1 z1)
    | ((with_reducible refine alloc_walk (o := ⟨some 2, _, _, _, _, _⟩) rfl 50 rfl _ rt_zero ?_); go_must (intro w2 r2 b2 z2; have R2 := Lib.hid (R1.out.below b2); have Q2 := Lib.hid r2; have B2 := Lib.hid (below_on B1.out b2); have c4 := R2.out.cell 4; have c5 := R2.out.cell 5; have c11 := R2.out.cell 11; have c15 := R2.out.cell 15; simp only [rvC, List.getElem?_cons_zero, List.getElem?_cons_succ] at c4 c5 c11 c15; rw [H1.out] at c11; clear r2 b2 z2))
    | (go_at_call 48; refine (KAD.out _).mono ?_; rintro e w7 ⟨rfl, rfl⟩))
  have hR : Row w2.drew w.heap.size 35 (rvC G (.slice Af nf cf) (.slice Ao no co) (.slice (some ⟨gl, ol, none⟩) nl cl)) := R2.out
  have hQ : Row w2.drew w1.heap.size 50 (tcC 0 0 0) := Q2.out
  have hB : Below w.heap.size w w2.drew := B2.out.drew
  have hX : w2.drew.cell? ⟨gl, ol + i, none⟩ = some (.int .i64 x) := (B2.out.cell (p := ⟨gl, ol + i, none⟩) hXlt).trans HXC.out
  have hXne : ¬ (⟨gl, ol + i, none⟩ : Addr).block = w1.heap.size := by have : (⟨gl, ol + i, none⟩ : Addr).block < w.heap.size := hXlt; omega
  refine wp_region_held_drew (S := fun W => Row W w.heap.size 35 (rvC G (.slice Af nf cf) (.slice Ao no co) (.slice (some ⟨gl, ol, none⟩) nl cl)) ∧ W.cell? ⟨w.heap.size, 12, none⟩ = some (.int .i64 (i : Int)) ∧ W.cell? ⟨w.heap.size, 16, none⟩ = some (.slice (some ⟨gl, ol, none⟩) nl cl) ∧ W.cell? ⟨gl, ol + i, none⟩ = some (.int .i64 x)) (by kernel_rfl) ⟨hR, (hR.cell 12).trans HI12.out, hR.cell 16, hX⟩ (fun hHeld => ?_)
  refine wpAnyH_take (i := 0) (oi := { dst := some 53, op := Go.Op.load 35 (Go.Operand.tmp 1), type := 35, pos := "ref.go:121", after := #[], guard := none }) (v := .agg (rvC G (.slice Af nf cf) (.slice Ao no co) (.slice (some ⟨gl, ol, none⟩) nl cl)).toArray) rfl (by kernel_rfl) (by kernel_rfl) (by kernel_rfl) (fun _ _ _ h => h) (yieldsIf_row rfl 35 (.tmp 1) rfl w.heap.size rfl (rvC G (.slice Af nf cf) (.slice Ao no co) (.slice (some ⟨gl, ol, none⟩) nl cl)) rv_struct (HSZ.out _ _ _ _) 35 (fun W h => h.1)) (by assumption) ?_
  try simp only [Act.put, List.setIfInBounds_toArray, List.set_cons_zero, List.set_cons_succ]
  refine' wpAnyH_take (i := 1) (oi := { dst := some 54, op := Go.Op.move (Go.Operand.tmp 4), type := 3, pos := "ref.go:121", after := #[], guard := none }) (v := _) rfl (by kernel_rfl) (by kernel_rfl) (by kernel_rfl) (fun _ _ _ h => h) (Or.inl ⟨by rfl, ?hy42⟩) (by assumption) ?rest42
  case hy42 => (intro w hSw; (try dsimp only at hSw); go_simp; try with_reducible rfl)
  try simp only [Act.put, List.setIfInBounds_toArray, List.set_cons_zero, List.set_cons_succ]
  refine' wpAnyH_take (i := 2) (oi := { dst := some 55, op := Go.Op.fieldAddr 35 (Go.Operand.tmp 1) 12, type := 0, pos := "ref.go:121", after := #[], guard := none }) (v := _) rfl (by kernel_rfl) (by kernel_rfl) (by kernel_rfl) (fun _ _ _ h => h) (Or.inl ⟨by rfl, ?hy43⟩) (by assumption) ?rest43
  case hy43 => (intro w hSw; (try dsimp only at hSw); go_simp; try with_reducible rfl)
  try simp only [Act.put, List.setIfInBounds_toArray, List.set_cons_zero, List.set_cons_succ]
  refine' wpAnyH_take (i := 3) (oi := { dst := some 56, op := Go.Op.load 3 (Go.Operand.tmp 55), type := 3, pos := "ref.go:121", after := #[{ on := 2, ground := Go.Ground.data }], guard := none }) (v := _) rfl (by kernel_rfl) (by kernel_rfl) (by kernel_rfl) (fun _ _ _ h => h) (Or.inl ⟨by rfl, ?hy44⟩) (by assumption) ?rest44
  case hy44 => (intro w hSw; (try dsimp only at hSw); go_simp; try with_reducible rfl)
  try simp only [Act.put, List.setIfInBounds_toArray, List.set_cons_zero, List.set_cons_succ]
  refine' wpAnyH_take (i := 5) (oi := { dst := some 58, op := Go.Op.fieldAddr 35 (Go.Operand.tmp 1) 16, type := 0, pos := "ref.go:121", after := #[], guard := none }) (v := _) rfl (by kernel_rfl) (by kernel_rfl) (by kernel_rfl) (fun _ _ _ h => h) (Or.inl ⟨by rfl, ?hy46⟩) (by assumption) ?rest46
  case hy46 => (intro w hSw; (try dsimp only at hSw); go_simp; try with_reducible rfl)
  try simp only [Act.put, List.setIfInBounds_toArray, List.set_cons_zero, List.set_cons_succ]
  refine' wpAnyH_take (i := 6) (oi := { dst := some 59, op := Go.Op.load 33 (Go.Operand.tmp 58), type := 33, pos := "ref.go:121", after := #[{ on := 5, ground := Go.Ground.data }], guard := none }) (v := _) rfl (by kernel_rfl) (by kernel_rfl) (by kernel_rfl) (fun _ _ _ h => h) (Or.inl ⟨by rfl, ?hy48⟩) (by assumption) ?rest48
  case hy48 => (intro w hSw; (try dsimp only at hSw); go_simp; try with_reducible rfl)
  try simp only [Act.put, List.setIfInBounds_toArray, List.set_cons_zero, List.set_cons_succ]
  refine' wpAnyH_take (i := 7) (oi := { dst := some 60, op := Go.Op.fieldAddr 35 (Go.Operand.tmp 1) 12, type := 0, pos := "ref.go:121", after := #[], guard := none }) (v := _) rfl (by kernel_rfl) (by kernel_rfl) (by kernel_rfl) (fun _ _ _ h => h) (Or.inl ⟨by rfl, ?hy50⟩) (by assumption) ?rest50
  case hy50 => (intro w hSw; (try dsimp only at hSw); go_simp; try with_reducible rfl)
  try simp only [Act.put, List.setIfInBounds_toArray, List.set_cons_zero, List.set_cons_succ]
  refine' wpAnyH_take (i := 8) (oi := { dst := some 61, op := Go.Op.load 3 (Go.Operand.tmp 60), type := 3, pos := "ref.go:121", after := #[{ on := 7, ground := Go.Ground.data }], guard := none }) (v := _) rfl (by kernel_rfl) (by kernel_rfl) (by kernel_rfl) (fun _ _ _ h => h) (Or.inl ⟨by rfl, ?hy52⟩) (by assumption) ?rest52
  case hy52 => (intro w hSw; (try dsimp only at hSw); go_simp; try with_reducible rfl)
  try simp only [Act.put, List.setIfInBounds_toArray, List.set_cons_zero, List.set_cons_succ]
  refine' wpAnyH_take (i := 9) (oi := { dst := some 62, op := Go.Op.indexAddr 33 (Go.Operand.tmp 59) (Go.Operand.tmp 61), type := 0, pos := "ref.go:121", after := #[{ on := 6, ground := Go.Ground.data }, { on := 8, ground := Go.Ground.data }], guard := none }) (v := _) rfl (by kernel_rfl) (by kernel_rfl) (by kernel_rfl) (fun _ _ _ h => h) (Or.inl ⟨by rfl, ?hy54⟩) (by assumption) ?rest54
  case hy54 => (intro w hSw; (try dsimp only at hSw); go_simp; try with_reducible rfl)
  try simp only [Act.put, List.setIfInBounds_toArray, List.set_cons_zero, List.set_cons_succ]
  refine' wpAnyH_take (i := 10) (oi := { dst := some 63, op := Go.Op.load 3 (Go.Operand.tmp 62), type := 3, pos := "ref.go:121", after := #[{ on := 9, ground := Go.Ground.data }], guard := none }) (v := _) rfl (by kernel_rfl) (by kernel_rfl) (by kernel_rfl) (fun _ _ _ h => h) (Or.inl ⟨by rfl, ?hy56⟩) (by assumption) ?rest56
  case hy56 => (intro w hSw; (try dsimp only at hSw); go_simp; try with_reducible rfl)
  try simp only [Act.put, List.setIfInBounds_toArray, List.set_cons_zero, List.set_cons_succ]
  refine wpAnyH_ready (rs := [4]) (by kernel_rfl) (by simp) ?_
  refine AllReadyH.cons (o := { dst := some 57, op := Go.Op.call { callee := Go.Callee.value (Go.Operand.func 49), args := #[Go.Operand.tmp 53, Go.Operand.const (Go.Value.int Go.IntKind.i64 8), Go.Operand.tmp 54, Go.Operand.tmp 56], argTypes := #[35, 3, 3, 3] }, type := 3, pos := "ref.go:121", after := #[{ on := 0, ground := Go.Ground.data }, { on := 1, ground := Go.Ground.data }, { on := 3, ground := Go.Ground.data }], guard := none }) rfl (fun K hK => ?_) AllReadyH.nil
  go_simp
  go_at_call 49
  refine (KAT.out _).mono ?_
  rintro e w8 ⟨rfl, b8⟩
  have h8 := hR.below b8
  have hQ8 := hQ.below b8
  have hB8 := below_on hB b8
  have hx8 := (b8.cell (p := ⟨gl, ol + i, none⟩) (Nat.lt_of_lt_of_le hXlt hB.size)).trans hX
  clear hR hQ hB
  obtain ⟨hR, hQ, hB⟩ : _ ∧ _ ∧ _ := ⟨h8, hQ8, hB8⟩
  clear hX
  have hX := hx8
  go_wp2_with fail
  refine hK.out _ _ ⟨hR, (hR.cell 12).trans HI12.out, hR.cell 16, hX⟩ (fun _ => ?_)
  clear hK K
  try simp only [Act.put, List.setIfInBounds_toArray, List.set_cons_zero, List.set_cons_succ]
  refine' wpAnyH_take (i := 11) (oi := { dst := some 64, op := Go.Op.build 50 #[(0, Go.Operand.const (Go.Value.int Go.IntKind.i64 2)), (1, Go.Operand.tmp 57), (2, Go.Operand.tmp 63)], type := 50, pos := "ref.go:121", after := #[{ on := 4, ground := Go.Ground.data }, { on := 10, ground := Go.Ground.data }], guard := none }) (v := _) rfl (by kernel_rfl) (by kernel_rfl) (by kernel_rfl) (fun _ _ _ h => h) (Or.inl ⟨by rfl, ?hy58⟩) (by assumption) ?rest58
  case hy58 => (intro w hSw; (try dsimp only at hSw); go_simp; try with_reducible rfl)
  try simp only [Act.put, List.setIfInBounds_toArray, List.set_cons_zero, List.set_cons_succ]
  refine wpAnyH_ready (rs := [12]) (by kernel_rfl) (by simp) ?_
  refine AllReadyH.cons (o := { dst := none, op := Go.Op.store 50 (Go.Operand.tmp 2) (Go.Operand.tmp 64), type := 0, pos := "ref.go:121", after := #[{ on := 11, ground := Go.Ground.data }, { on := 4, ground := Go.Ground.chain }, { on := 0, ground := Go.Ground.phase }, { on := 1, ground := Go.Ground.phase }, { on := 2, ground := Go.Ground.phase }, { on := 3, ground := Go.Ground.phase }, { on := 4, ground := Go.Ground.phase }, { on := 5, ground := Go.Ground.phase }, { on := 6, ground := Go.Ground.phase }, { on := 7, ground := Go.Ground.phase }, { on := 8, ground := Go.Ground.phase }, { on := 9, ground := Go.Ground.phase }, { on := 10, ground := Go.Ground.phase }, { on := 11, ground := Go.Ground.phase }], guard := none }) rfl (fun K hK => ?_) AllReadyH.nil
  refine storeRow_step rfl 50 (.tmp 2) (.tmp 64) rfl w1.heap.size rfl [.int .i64 (2), .int .i64 (atV13 G.B G.R 8 G.d (i : Int)), .int .i64 (x)] rfl HS3.out 50 (tcC 0 0 0) hQ rfl HO3.out ?_
  intro w4 r4 o4 z4
  have R4 : Hid (Row w4 w1.heap.size 50 (tcC (2) (atV13 G.B G.R 8 G.d (i : Int)) (x))) := Lib.hid r4
  have B4 := Lib.hid (Only.below hB o4 hB.size (fun k hk e => by subst e; omega))
  have h4 := hR.only o4 (fun e => by omega)
  have hX4 := (World.cell?_of_block (w := _) (o4.block _ (Nat.lt_of_lt_of_le hXlt (by have := hB.size; omega)) hXne)).trans hX
  refine hK.out _ _ ⟨h4, (h4.cell 12).trans HI12.out, h4.cell 16, hX4⟩ (fun _ => ?_)
  clear hK K
  try simp only [Act.put]
  refine wpAnyH_done (by kernel_rfl) ?_ _
  go_wp2
  exact bodyPost_ret (rt_results Tryd.results36 rfl R4.out) rfl ⟨rfl, B4.out⟩
end
end

section
open Go.ChangeShapes Go.WideShapes Go.ChangeAt Go.RowKit
section
variable {Af Ao Al : Option Addr} {nf cf no co nl cl : Nat}
theorem rtch_any (P : Nat → Prop) (G : Rv) (w : World) (r : RvL w P G (.slice Af nf cf) (.slice Ao no co) (.slice Al nl cl)) (hB : 0 ≤ G.B ∧ G.B ≤ 100000) (hR : 1 ≤ G.R ∧ G.R ≤ 64) (ha : 1 ≤ G.at_ ∧ G.at_ ≤ 15) (ht : 0 ≤ G.tail) (hn : 0 ≤ G.next) (hi : G.at_ = 8 → ∃ i : Nat, G.i = (i : Int) ∧ i < G.load.length) :
    Calls Tryd.prog 36 #[rvV G (.slice Af nf cf) (.slice Ao no co) (.slice Al nl cl)] w fun e w' => e = .returned (touchV (rtN G).1 (rtN G).2.1 (rtN G).2.2) ∧ Below w.heap.size w w' := by
  have hR0 : 0 ≤ G.R ∧ G.R ≤ 64 := by omega
  obtain ⟨_, _, _, rf, hn3, -⟩ := lies_open r.load
  injection rf with e1 e2 e3
  have k3 : G.load.length = nl := by rw [e2]; exact hn3.out
  have cs : G.at_ = 1 ∨ G.at_ = 2 ∨ G.at_ = 3 ∨ G.at_ = 4 ∨ G.at_ = 5 ∨ G.at_ = 6 ∨ G.at_ = 7 ∨ G.at_ = 8 ∨ G.at_ = 9 ∨ G.at_ = 10 ∨ G.at_ = 11 ∨ G.at_ = 12 ∨ G.at_ = 13 ∨ G.at_ = 14 ∨ G.at_ = 15 := by omega
  unfold rtN
  rcases cs with a | a | a | a | a | a | a | a | a | a | a | a | a | a | a
  · rw [if_pos (show G.at_ = 1 ∨ G.at_ = 15 by omega)]; exact rtch_ask G w a
  · rw [if_neg (show ¬ (G.at_ = 1 ∨ G.at_ = 15) by omega), if_pos a]; exact rtch_zero G w hB hR0 a
  · rw [if_neg (show ¬ (G.at_ = 1 ∨ G.at_ = 15) by omega), if_neg (show ¬ G.at_ = 2 by omega), if_pos a]; exact rtch_mark G w hB hR0 a
  · rw [if_neg (show ¬ (G.at_ = 1 ∨ G.at_ = 15) by omega), if_neg (show ¬ G.at_ = 2 by omega), if_neg (show ¬ G.at_ = 3 by omega), if_neg (show ¬ G.at_ = 5 by omega), if_neg (show ¬ G.at_ = 6 by omega), if_neg (show ¬ G.at_ = 7 by omega), if_neg (show ¬ G.at_ = 8 by omega), if_neg (show ¬ G.at_ = 9 by omega), if_neg (show ¬ G.at_ = 10 by omega), if_neg (show ¬ G.at_ = 12 by omega), if_neg (show ¬ G.at_ = 14 by omega)]; exact rtch_settle G w a
  · rw [if_neg (show ¬ (G.at_ = 1 ∨ G.at_ = 15) by omega), if_neg (show ¬ G.at_ = 2 by omega), if_neg (show ¬ G.at_ = 3 by omega), if_pos a]; exact rtch_link G w hB hR0 a
  · rw [if_neg (show ¬ (G.at_ = 1 ∨ G.at_ = 15) by omega), if_neg (show ¬ G.at_ = 2 by omega), if_neg (show ¬ G.at_ = 3 by omega), if_neg (show ¬ G.at_ = 5 by omega), if_pos a]; exact rtch_room G w hB hR0 a
  · rw [if_neg (show ¬ (G.at_ = 1 ∨ G.at_ = 15) by omega), if_neg (show ¬ G.at_ = 2 by omega), if_neg (show ¬ G.at_ = 3 by omega), if_neg (show ¬ G.at_ = 5 by omega), if_neg (show ¬ G.at_ = 6 by omega), if_pos a]; exact rtch_back G w hB hR0 a ht hR.1 _ rfl
  · rw [if_neg (show ¬ (G.at_ = 1 ∨ G.at_ = 15) by omega), if_neg (show ¬ G.at_ = 2 by omega), if_neg (show ¬ G.at_ = 3 by omega), if_neg (show ¬ G.at_ = 5 by omega), if_neg (show ¬ G.at_ = 6 by omega), if_neg (show ¬ G.at_ = 7 by omega), if_pos a]
    obtain ⟨i, hGi, hil⟩ := hi a
    obtain ⟨x, hx⟩ : ∃ x, G.load[i]? = some x := ⟨_, List.getElem?_eq_getElem hil⟩
    obtain ⟨gl, ol, rfl, -, hgl, hlc⟩ := lies_at r.load hx
    have e : G.load.getD G.i.toNat 0 = x := by rw [hGi, Int.toNat_natCast]; simp [hx]
    rw [e, hGi]
    exact rtch_word G w hB hR0 a i x hGi (by omega) gl ol hgl hlc
  · rw [if_neg (show ¬ (G.at_ = 1 ∨ G.at_ = 15) by omega), if_neg (show ¬ G.at_ = 2 by omega), if_neg (show ¬ G.at_ = 3 by omega), if_neg (show ¬ G.at_ = 5 by omega), if_neg (show ¬ G.at_ = 6 by omega), if_neg (show ¬ G.at_ = 7 by omega), if_neg (show ¬ G.at_ = 8 by omega), if_pos a, k3]; exact rtch_size G w hB hR0 a
  · rw [if_neg (show ¬ (G.at_ = 1 ∨ G.at_ = 15) by omega), if_neg (show ¬ G.at_ = 2 by omega), if_neg (show ¬ G.at_ = 3 by omega), if_neg (show ¬ G.at_ = 5 by omega), if_neg (show ¬ G.at_ = 6 by omega), if_neg (show ¬ G.at_ = 7 by omega), if_neg (show ¬ G.at_ = 8 by omega), if_neg (show ¬ G.at_ = 9 by omega), if_pos a]; exact rtch_offer G w hB hR0 a hn hR.1 _ rfl
  · rw [if_neg (show ¬ (G.at_ = 1 ∨ G.at_ = 15) by omega), if_neg (show ¬ G.at_ = 2 by omega), if_neg (show ¬ G.at_ = 3 by omega), if_neg (show ¬ G.at_ = 5 by omega), if_neg (show ¬ G.at_ = 6 by omega), if_neg (show ¬ G.at_ = 7 by omega), if_neg (show ¬ G.at_ = 8 by omega), if_neg (show ¬ G.at_ = 9 by omega), if_neg (show ¬ G.at_ = 10 by omega), if_neg (show ¬ G.at_ = 12 by omega), if_neg (show ¬ G.at_ = 14 by omega)]; exact rtch_guard G w a
  · rw [if_neg (show ¬ (G.at_ = 1 ∨ G.at_ = 15) by omega), if_neg (show ¬ G.at_ = 2 by omega), if_neg (show ¬ G.at_ = 3 by omega), if_neg (show ¬ G.at_ = 5 by omega), if_neg (show ¬ G.at_ = 6 by omega), if_neg (show ¬ G.at_ = 7 by omega), if_neg (show ¬ G.at_ = 8 by omega), if_neg (show ¬ G.at_ = 9 by omega), if_neg (show ¬ G.at_ = 10 by omega), if_pos a]; exact rtch_show G w hB hR0 a
  · rw [if_neg (show ¬ (G.at_ = 1 ∨ G.at_ = 15) by omega), if_neg (show ¬ G.at_ = 2 by omega), if_neg (show ¬ G.at_ = 3 by omega), if_neg (show ¬ G.at_ = 5 by omega), if_neg (show ¬ G.at_ = 6 by omega), if_neg (show ¬ G.at_ = 7 by omega), if_neg (show ¬ G.at_ = 8 by omega), if_neg (show ¬ G.at_ = 9 by omega), if_neg (show ¬ G.at_ = 10 by omega), if_neg (show ¬ G.at_ = 12 by omega), if_neg (show ¬ G.at_ = 14 by omega)]; exact rtch_flush G w a
  · rw [if_neg (show ¬ (G.at_ = 1 ∨ G.at_ = 15) by omega), if_neg (show ¬ G.at_ = 2 by omega), if_neg (show ¬ G.at_ = 3 by omega), if_neg (show ¬ G.at_ = 5 by omega), if_neg (show ¬ G.at_ = 6 by omega), if_neg (show ¬ G.at_ = 7 by omega), if_neg (show ¬ G.at_ = 8 by omega), if_neg (show ¬ G.at_ = 9 by omega), if_neg (show ¬ G.at_ = 10 by omega), if_neg (show ¬ G.at_ = 12 by omega), if_pos a]; exact rtch_ring G w a
  · rw [if_pos (show G.at_ = 1 ∨ G.at_ = 15 by omega)]; exact rtch_over G w a
/-- Touch, and After, of a giver that says the same as the program's giver H. -/
theorem rtch_rel (P : Nat → Prop) (H : Gv) (G : Rv) (w : World) (r : RvL w P G (.slice Af nf cf) (.slice Ao no co) (.slice Al nl cl)) (h : Rel16 H G) (ok : Ok16 H) (h0 : H.st ≠ 0) :
    Calls Tryd.prog 36 #[rvV G (.slice Af nf cf) (.slice Ao no co) (.slice Al nl cl)] w fun e w' => e = .returned (touchV (tch16 H).1 (tch16 H).2.1 (tch16 H).2.2) ∧ Below w.heap.size w w' := by
  have hb := ok.B
  have h64 := ok.R64
  have h15 := ok.st
  have ht := ok.tail
  have hn := ok.next
  have hat := h.at_
  rw [← rel16_tch h ok h0]
  refine rtch_any P G w r (by rw [h.B]; omega) (by rw [h.R]; omega) (by omega) (by rw [h.tail]; exact ht.1) (by rw [h.next]; exact hn.1) (fun a => ⟨H.sto, h.i (by omega), ?_⟩)
  rw [h.load h0]
  exact ok.word (by omega)
theorem raft_rel (P : Nat → Prop) (H : Gv) (G : Rv) (x : Int) (w : World) (r : RvL w P G (.slice Af nf cf) (.slice Ao no co) (.slice Al nl cl)) (h : Rel16 H G) (ok : Ok16 H) (h0 : H.st ≠ 0) :
    Calls Tryd.prog 37 #[rvV G (.slice Af nf cf) (.slice Ao no co) (.slice Al nl cl), .int .i64 x] w (RVA P (raN G H.R x).1 (raN G H.R x).2 w) := by
  have h64 := ok.R64
  have h15 := ok.st
  have hat := h.at_
  have hl := ok.len
  refine raft_any P G H.R x w r h.R h64.2 (by omega) (by rw [h.out]; omega) (by rw [h.free]; omega) (fun a => ?_) (fun a => ?_)
  · have e7 : H.st = 7 := by omega
    have := ok.ret e7
    rw [h.left e7]
    omega
  · have e8 : H.st = 8 := by omega
    have := ok.word e8
    have := ok.load
    rw [h.i e8]
    omega
end
end

end Go.Proofs.YteipocjgmgaglaaDoor
