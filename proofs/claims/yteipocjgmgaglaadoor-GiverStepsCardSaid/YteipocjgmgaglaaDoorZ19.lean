/-
  Texts merged, with what one theorem needs of them.
  Conditions: those that each theorem states.
-/
import Derived.Test.YteipocjgmgaglaaDoorRows
import Derived.Test.YteipocjgmgaglaaDoorZ1
import Derived.Test.YteipocjgmgaglaaDoorZ2
import Derived.Test.YteipocjgmgaglaaDoorZ3
import Derived.Test.YteipocjgmgaglaaDoorZ4
import Derived.Test.YteipocjgmgaglaaDoorZ5
import Derived.Test.YteipocjgmgaglaaDoorZ6
import Derived.Test.YteipocjgmgaglaaDoorZ7
import Derived.Test.YteipocjgmgaglaaDoorZ8
import Derived.Test.YteipocjgmgaglaaDoorZ9
import Derived.Test.YteipocjgmgaglaaDoorZ10
import Derived.Test.YteipocjgmgaglaaDoorZ11
import Derived.Test.YteipocjgmgaglaaDoorZ12
import Derived.Test.YteipocjgmgaglaaDoorZ13
import Derived.Test.YteipocjgmgaglaaDoorZ14
import Derived.Test.YteipocjgmgaglaaDoorZ15
import Derived.Test.YteipocjgmgaglaaDoorZ16
import Derived.Test.YteipocjgmgaglaaDoorZ17
import Derived.Test.YteipocjgmgaglaaDoorZ18
import Derived.Below
import Derived.BigQuiet
import Derived.Deep.AppendLies
import Derived.Deep.DeepMust
import Derived.Deep.Draws
import Derived.Deep.MidRow
import Derived.Deep.OwnRows
import Derived.Deep.QuietTactic
import Derived.Deep.RegionHeld3
import Derived.Deep.RegionLaw
import Derived.Deep.RegionWith
import Derived.Defers
import Derived.Great.BuildSlice
import Derived.Handy
import Derived.IntWalk
import Derived.KernelRfl
import Derived.LaidLaws
import Derived.LaidMore
import Derived.Laws.BitsLemmas
import Derived.Laws.CopyOwn
import Derived.Laws.OwnMore
import Derived.Laws.Rows
import Derived.Lib.Hide
import Derived.Lib.SliceRun
import Derived.MakeChecks
import Derived.Maps.AppendAt
import Derived.OpenShut
import Derived.ProofKit
import Derived.Recover
import Derived.RegionTactic
import Derived.Scope
import Derived.WalkKit
import Derived.WalkMore
namespace Go.Proofs.YteipocjgmgaglaaDoor

section
open Go.ChangeShapes Go.WideShapes Go.ChangeAt Go.RowKit
/-- What follows from an access, in numbers: the words are written next; the call is over with a result; behind the last returned slot. -/
def wri16 (G : Gv) : Gv := { G with st := if G.sto = G.load.length then 9 else 8 }
def fin16 (G : Gv) (n : Int) : Gv := { G with st := 15, res := n }
def roo16 (G : Gv) : Gv := if 0 < G.ret then { G with st := 7 } else if takB16 G then wri16 (takG16 G) else fin16 G 5
/-- What follows from an access that has read x: the giver then, and the result if the call has ended. -/
def aft16 (G : Gv) (x : Int) : Gv × Option Int :=
  if G.st = 1 then ({ askG16 G x with st := askS16 G x }, none)
  else if G.st = 4 then (idle16 { G with linked := false, free := upto16 G.R, out := [], next := 0, tail := 0 }, some 8)
  else if G.st = 5 then (if x = ep16 G then ({ G with linked := true, st := 6 }, none) else (idle16 G, some 9))
  else if G.st = 6 then (if (G.out.length : Int) < subW x G.tail then (fin16 { G with ret := subW x G.tail } 10, none) else (roo16 { G with ret := subW x G.tail }, none))
  else if G.st = 7 then (if x ∈ G.out then (roo16 { regG16 G x with ret := G.ret - 1 }, none) else (fin16 G 10, none))
  else if G.st = 8 then (wri16 { G with sto := G.sto + 1 }, none)
  else if G.st = 15 then (idle16 (judG16 G x), some (judE16 G x))
  else ({ G with st := G.st + 1 }, none)
def ansV16 (o : Option Int) : Value := .tuple #[.bool o.isSome, .int .i64 (o.getD 0)]
/-- The body of follow, and the code behind its labels. -/
noncomputable def folB : Option Code := (Tryd.prog.funcs[40]?).bind (fun f => f.body)
noncomputable def folC : Code := match folB with | some (Code.seq _ (Code.scope c)) => c | _ => Code.skip
noncomputable def folJ (l : Nat) : Option Code := findLabel folC l
noncomputable def folR (l : Nat) : Code := (findLabel folC l).getD .skip
theorem folJ0 : folJ 0 = some (folR 0) := by kernel_rfl
theorem folJ1 : folJ 1 = some (folR 1) := by kernel_rfl
theorem folJ2 : folJ 2 = some (folR 2) := by kernel_rfl
section
variable {g : Nat} {G : Gv} {vf vo vl : Value}
/-- Behind a call: its own part, and more cells of the struct. -/
theorem GP16.more {w w1 w2 : World} {G1 G2 : Gv} {vf1 vo1 vl1 ans : Value} (h1 : Only (own16 g vf vo vl) w w1) (n1 : ∀ x, own16 g vf1 vo1 vl1 x → own16 g vf vo vl x ∨ w.heap.size ≤ x) (r : GAt w1 g G1 vf1 vo1 vl1) (ho : Only (· = g) w1 w2) (hr : Row w2 g 72 (gvC G2 vf1 vo1 vl1)) (hf : G2.free = G1.free) (hout : G2.out = G1.out) (hl : G2.load = G1.load) : GP16 g G2 vf vo vl ans w (.returned ans) w2 :=
  GP16.trans h1 n1 (GP16.one r ho hr hf hout hl)
/-- What has changed behind two calls. -/
theorem ch16 {w w1 w2 : World} {vf1 vo1 vl1 vf2 vo2 vl2 : Value} (h1 : Only (own16 g vf vo vl) w w1) (n1 : ∀ x, own16 g vf1 vo1 vl1 x → own16 g vf vo vl x ∨ w.heap.size ≤ x) (o2 : Only (own16 g vf1 vo1 vl1) w1 w2) (n2 : ∀ x, own16 g vf2 vo2 vl2 x → own16 g vf1 vo1 vl1 x ∨ w1.heap.size ≤ x) :
    Only (own16 g vf vo vl) w w2 ∧ ∀ x, own16 g vf2 vo2 vl2 x → own16 g vf vo vl x ∨ w.heap.size ≤ x := by
  have hs := h1.size
  refine ⟨h1.then14 o2 (fun x hx h => (n1 x h).resolve_right (by omega)), fun x h => ?_⟩
  rcases n2 x h with h | h
  · exact n1 x h
  · exact .inr (by omega)
set_option maxRecDepth 100000 in
set_option maxHeartbeats 2000000 in
theorem fol16_s2 (x : Int) (w : World) (r : GAt w g G vf vo vl) (hst : G.st = 2) :
    Calls Tryd.prog 40 #[.pointer (some ⟨g, 0, none⟩), .int .i64 x] w (GP16 g (aft16 G x).1 vf vo vl (ansV16 (aft16 G x).2) w) := by
  have R := Lib.hid r
  have HE : Hid (aft16 G x = ({ G with st := 3 }, none)) := Lib.hid (by unfold aft16; simp [hst])
  have HR : Hid (Row (w.setCell ⟨g, 6, none⟩ (.int .i64 3)) g 72 (gvC { G with st := 3 } vf vo vl)) := Lib.hid (r.row.put 6 (.int .i64 3))
  have c6 := r.row.cell 6
  have f6 := r.row.soft 6
  simp only [gvC, List.getElem?_cons_zero, List.getElem?_cons_succ] at c6
  rw [hst] at c6
  clear r hst
  go_enter Tryd.func40, Tryd.ntmps40
  go_wp2
  refine wp_scope_fwd 3 folJ (fun l => by kernel_rfl) ?_
  go_wp2
  go_ret2
  rw [HE.out]
  exact GP16.one R.out (only_put16 _ _ _ _) HR.out rfl rfl rfl
set_option maxRecDepth 100000 in
set_option maxHeartbeats 2000000 in
theorem fol16_s3 (x : Int) (w : World) (r : GAt w g G vf vo vl) (hst : G.st = 3) :
    Calls Tryd.prog 40 #[.pointer (some ⟨g, 0, none⟩), .int .i64 x] w (GP16 g (aft16 G x).1 vf vo vl (ansV16 (aft16 G x).2) w) := by
  have R := Lib.hid r
  have HE : Hid (aft16 G x = ({ G with st := 4 }, none)) := Lib.hid (by unfold aft16; simp [hst])
  have HR : Hid (Row (w.setCell ⟨g, 6, none⟩ (.int .i64 4)) g 72 (gvC { G with st := 4 } vf vo vl)) := Lib.hid (r.row.put 6 (.int .i64 4))
  have c6 := r.row.cell 6
  have f6 := r.row.soft 6
  simp only [gvC, List.getElem?_cons_zero, List.getElem?_cons_succ] at c6
  rw [hst] at c6
  clear r hst
  go_enter Tryd.func40, Tryd.ntmps40
  go_wp2
  refine wp_scope_fwd 3 folJ (fun l => by kernel_rfl) ?_
  go_wp2
  go_ret2
  rw [HE.out]
  exact GP16.one R.out (only_put16 _ _ _ _) HR.out rfl rfl rfl
set_option maxRecDepth 100000 in
set_option maxHeartbeats 2000000 in
theorem fol16_s9 (x : Int) (w : World) (r : GAt w g G vf vo vl) (hst : G.st = 9) :
    Calls Tryd.prog 40 #[.pointer (some ⟨g, 0, none⟩), .int .i64 x] w (GP16 g (aft16 G x).1 vf vo vl (ansV16 (aft16 G x).2) w) := by
  have R := Lib.hid r
  have HE : Hid (aft16 G x = ({ G with st := 10 }, none)) := Lib.hid (by unfold aft16; simp [hst])
  have HR : Hid (Row (w.setCell ⟨g, 6, none⟩ (.int .i64 10)) g 72 (gvC { G with st := 10 } vf vo vl)) := Lib.hid (r.row.put 6 (.int .i64 10))
  have c6 := r.row.cell 6
  have f6 := r.row.soft 6
  simp only [gvC, List.getElem?_cons_zero, List.getElem?_cons_succ] at c6
  rw [hst] at c6
  clear r hst
  go_enter Tryd.func40, Tryd.ntmps40
  go_wp2
  refine wp_scope_fwd 3 folJ (fun l => by kernel_rfl) ?_
  go_wp2
  go_ret2
  rw [HE.out]
  exact GP16.one R.out (only_put16 _ _ _ _) HR.out rfl rfl rfl
set_option maxRecDepth 100000 in
set_option maxHeartbeats 2000000 in
theorem fol16_s10 (x : Int) (w : World) (r : GAt w g G vf vo vl) (hst : G.st = 10) :
    Calls Tryd.prog 40 #[.pointer (some ⟨g, 0, none⟩), .int .i64 x] w (GP16 g (aft16 G x).1 vf vo vl (ansV16 (aft16 G x).2) w) := by
  have R := Lib.hid r
  have HE : Hid (aft16 G x = ({ G with st := 11 }, none)) := Lib.hid (by unfold aft16; simp [hst])
  have HR : Hid (Row (w.setCell ⟨g, 6, none⟩ (.int .i64 11)) g 72 (gvC { G with st := 11 } vf vo vl)) := Lib.hid (r.row.put 6 (.int .i64 11))
  have c6 := r.row.cell 6
  have f6 := r.row.soft 6
  simp only [gvC, List.getElem?_cons_zero, List.getElem?_cons_succ] at c6
  rw [hst] at c6
  clear r hst
  go_enter Tryd.func40, Tryd.ntmps40
  go_wp2
  refine wp_scope_fwd 3 folJ (fun l => by kernel_rfl) ?_
  go_wp2
  go_ret2
  rw [HE.out]
  exact GP16.one R.out (only_put16 _ _ _ _) HR.out rfl rfl rfl
set_option maxRecDepth 100000 in
set_option maxHeartbeats 2000000 in
theorem fol16_s11 (x : Int) (w : World) (r : GAt w g G vf vo vl) (hst : G.st = 11) :
    Calls Tryd.prog 40 #[.pointer (some ⟨g, 0, none⟩), .int .i64 x] w (GP16 g (aft16 G x).1 vf vo vl (ansV16 (aft16 G x).2) w) := by
  have R := Lib.hid r
  have HE : Hid (aft16 G x = ({ G with st := 12 }, none)) := Lib.hid (by unfold aft16; simp [hst])
  have HR : Hid (Row (w.setCell ⟨g, 6, none⟩ (.int .i64 12)) g 72 (gvC { G with st := 12 } vf vo vl)) := Lib.hid (r.row.put 6 (.int .i64 12))
  have c6 := r.row.cell 6
  have f6 := r.row.soft 6
  simp only [gvC, List.getElem?_cons_zero, List.getElem?_cons_succ] at c6
  rw [hst] at c6
  clear r hst
  go_enter Tryd.func40, Tryd.ntmps40
  go_wp2
  refine wp_scope_fwd 3 folJ (fun l => by kernel_rfl) ?_
  go_wp2
  go_ret2
  rw [HE.out]
  exact GP16.one R.out (only_put16 _ _ _ _) HR.out rfl rfl rfl
set_option maxRecDepth 100000 in
set_option maxHeartbeats 2000000 in
theorem fol16_s12 (x : Int) (w : World) (r : GAt w g G vf vo vl) (hst : G.st = 12) :
    Calls Tryd.prog 40 #[.pointer (some ⟨g, 0, none⟩), .int .i64 x] w (GP16 g (aft16 G x).1 vf vo vl (ansV16 (aft16 G x).2) w) := by
  have R := Lib.hid r
  have HE : Hid (aft16 G x = ({ G with st := 13 }, none)) := Lib.hid (by unfold aft16; simp [hst])
  have HR : Hid (Row (w.setCell ⟨g, 6, none⟩ (.int .i64 13)) g 72 (gvC { G with st := 13 } vf vo vl)) := Lib.hid (r.row.put 6 (.int .i64 13))
  have c6 := r.row.cell 6
  have f6 := r.row.soft 6
  simp only [gvC, List.getElem?_cons_zero, List.getElem?_cons_succ] at c6
  rw [hst] at c6
  clear r hst
  go_enter Tryd.func40, Tryd.ntmps40
  go_wp2
  refine wp_scope_fwd 3 folJ (fun l => by kernel_rfl) ?_
  go_wp2
  go_ret2
  rw [HE.out]
  exact GP16.one R.out (only_put16 _ _ _ _) HR.out rfl rfl rfl
set_option maxRecDepth 100000 in
set_option maxHeartbeats 2000000 in
theorem fol16_s13 (x : Int) (w : World) (r : GAt w g G vf vo vl) (hst : G.st = 13) :
    Calls Tryd.prog 40 #[.pointer (some ⟨g, 0, none⟩), .int .i64 x] w (GP16 g (aft16 G x).1 vf vo vl (ansV16 (aft16 G x).2) w) := by
  have R := Lib.hid r
  have HE : Hid (aft16 G x = ({ G with st := 14 }, none)) := Lib.hid (by unfold aft16; simp [hst])
  have HR : Hid (Row (w.setCell ⟨g, 6, none⟩ (.int .i64 14)) g 72 (gvC { G with st := 14 } vf vo vl)) := Lib.hid (r.row.put 6 (.int .i64 14))
  have c6 := r.row.cell 6
  have f6 := r.row.soft 6
  simp only [gvC, List.getElem?_cons_zero, List.getElem?_cons_succ] at c6
  rw [hst] at c6
  clear r hst
  go_enter Tryd.func40, Tryd.ntmps40
  go_wp2
  refine wp_scope_fwd 3 folJ (fun l => by kernel_rfl) ?_
  go_wp2
  go_ret2
  rw [HE.out]
  exact GP16.one R.out (only_put16 _ _ _ _) HR.out rfl rfl rfl
set_option maxRecDepth 100000 in
set_option maxHeartbeats 2000000 in
theorem fol16_s14 (x : Int) (w : World) (r : GAt w g G vf vo vl) (hst : G.st = 14) :
    Calls Tryd.prog 40 #[.pointer (some ⟨g, 0, none⟩), .int .i64 x] w (GP16 g (aft16 G x).1 vf vo vl (ansV16 (aft16 G x).2) w) := by
  have R := Lib.hid r
  have HE : Hid (aft16 G x = ({ G with st := 15 }, none)) := Lib.hid (by unfold aft16; simp [hst])
  have HR : Hid (Row (w.setCell ⟨g, 6, none⟩ (.int .i64 15)) g 72 (gvC { G with st := 15 } vf vo vl)) := Lib.hid (r.row.put 6 (.int .i64 15))
  have c6 := r.row.cell 6
  have f6 := r.row.soft 6
  simp only [gvC, List.getElem?_cons_zero, List.getElem?_cons_succ] at c6
  rw [hst] at c6
  clear r hst
  go_enter Tryd.func40, Tryd.ntmps40
  go_wp2
  refine wp_scope_fwd 3 folJ (fun l => by kernel_rfl) ?_
  go_wp2
  go_ret2
  rw [HE.out]
  exact GP16.one R.out (only_put16 _ _ _ _) HR.out rfl rfl rfl
set_option maxRecDepth 100000 in
set_option maxHeartbeats 2000000 in
theorem fol16_s8 (x : Int) (w : World) (r : GAt w g G vf vo vl) (hst : G.st = 8) (hs : G.sto ≤ 100) :
    Calls Tryd.prog 40 #[.pointer (some ⟨g, 0, none⟩), .int .i64 x] w (GP16 g (aft16 G x).1 vf vo vl (ansV16 (aft16 G x).2) w) := by
  have R := Lib.hid r
  obtain ⟨w2, hw2⟩ : ∃ w2, w2 = w.setCell ⟨g, 14, none⟩ (.int .i64 ((G.sto : Int) + 1)) := ⟨_, rfl⟩
  have o2 : Only (· = g) w w2 := by rw [hw2]; exact only_put16 _ _ _ _
  obtain ⟨G1, hG⟩ : ∃ G1 : Gv, G1 = { G with sto := G.sto + 1 } := ⟨_, rfl⟩
  have r2 : GAt w2 g G1 vf vo vl := by rw [hG]; exact r.turn o2 (by rw [hw2]; exact r.row.put 14 (.int .i64 ((G.sto : Int) + 1))) rfl rfl rfl
  have R2 := Lib.hid r2
  have O2 := Lib.hid (o2.mono (T := own16 g vf vo vl) (fun _ _ h => .inl h))
  have HE : Hid (aft16 G x = (wri16 G1, none)) := Lib.hid (by unfold aft16; simp [hst, hG])
  have c6 := r.row.cell 6
  have c14 := r.row.cell 14
  have f6 := r.row.soft 6
  have f14 := r.row.soft 14
  simp only [gvC, List.getElem?_cons_zero, List.getElem?_cons_succ] at c6 c14
  rw [hst] at c6
  have hso : G.sto ≤ 100 := hs
  obtain ⟨k0, hk0⟩ : ∃ n, G.sto = n := ⟨_, rfl⟩
  rw [hk0] at c14 hw2 hso
  clear r o2 r2 hst hG
  go_enter Tryd.func40, Tryd.ntmps40
  go_wp2
  refine wp_scope_fwd 3 folJ (fun l => by kernel_rfl) ?_
  go_wp2
  go_step3
  try simp only [Exit.inBlock]
  try simp only [Exit.then]
  refine fwd_goto folJ2 ?_
  conv => arg 2; whnf
  rw [← hw2]
  clear hw2
  obtain ⟨Al, cl, hvl⟩ := own_open14 R2.out.load
  obtain ⟨nl, hnl⟩ : ∃ n, (G1).load.length = n := ⟨_, rfl⟩
  obtain ⟨kl, hkl⟩ : ∃ n, (G1).sto = n := ⟨_, rfl⟩
  rw [hnl] at hvl
  have yc6 := R2.out.row.cell 6
  have yc13 := R2.out.row.cell 13
  have yc14 := R2.out.row.cell 14
  have yf6 := R2.out.row.soft 6
  simp only [gvC, List.getElem?_cons_zero, List.getElem?_cons_succ] at yc6 yc13 yc14
  rw [hvl] at yc13
  rw [hkl] at yc14
  have HKL : Hid ((G1).load.length = nl ∧ (G1).sto = kl) := Lib.hid ⟨hnl, hkl⟩
  clear hvl hnl hkl
  by_cases hkn : kl = nl
  · have e9 : ((kl : Int) == (nl : Int)) = true := by simp [hkn]
    have HW : Hid (wri16 (G1) = { G1 with st := 9 }) := Lib.hid (by unfold wri16; rw [if_pos (by rw [HKL.out.1, HKL.out.2]; exact hkn)])
    clear hkn
    go_wp2
    go_quiet (fail)
    go_wp2
    go_ret2
    rw [HE.out, HW.out]
    refine GP16.more O2.out (fun _ h => .inl h) R2.out (by repeat (with_reducible (first | exact Only.refl _ _ | refine Only.put16 ?_ _ _ | refine Only.drewN ?_ _))) ?_ rfl rfl rfl
    exact ((R2.out.row.put 6 (.int .i64 8)).drewN _).put 6 (.int .i64 9)
  · have e9 : ((kl : Int) == (nl : Int)) = false := by simp; omega
    have HW : Hid (wri16 (G1) = { G1 with st := 8 }) := Lib.hid (by unfold wri16; rw [if_neg (by rw [HKL.out.1, HKL.out.2]; exact hkn)])
    clear hkn
    go_wp2
    go_quiet (fail)
    go_wp2
    go_ret2
    rw [HE.out, HW.out]
    refine GP16.more O2.out (fun _ h => .inl h) R2.out (by repeat (with_reducible (first | exact Only.refl _ _ | refine Only.put16 ?_ _ _ | refine Only.drewN ?_ _))) ?_ rfl rfl rfl
    exact (R2.out.row.put 6 (.int .i64 8)).drewN _
set_option maxRecDepth 100000 in
set_option maxHeartbeats 2000000 in
theorem fol16_s1 (x : Int) (w : World) (r : GAt w g G vf vo vl) (hst : G.st = 1) :
    Calls Tryd.prog 40 #[.pointer (some ⟨g, 0, none⟩), .int .i64 x] w (GP16 g (aft16 G x).1 vf vo vl (ansV16 (aft16 G x).2) w) := by
  have R := Lib.hid r
  have KA := Lib.hid (asked16_any x w r)
  have HE : Hid (aft16 G x = ({ askG16 G x with st := askS16 G x }, none)) := Lib.hid (by unfold aft16; simp [hst])
  have c6 := r.row.cell 6
  simp only [gvC, List.getElem?_cons_zero, List.getElem?_cons_succ] at c6
  rw [hst] at c6
  clear r hst
  go_enter Tryd.func40, Tryd.ntmps40
  go_wp2
  refine wp_scope_fwd 3 folJ (fun l => by kernel_rfl) ?_
  go_wp2_with fail
  refine KA.out.mono ?_
  rintro e w1 ⟨vf1, vo1, vl1, rfl, r1, o1, n1⟩
  have zc6 := r1.row.cell 6
  have zf6 := r1.row.soft 6
  simp only [gvC, List.getElem?_cons_zero, List.getElem?_cons_succ] at zc6
  have R1 := Lib.hid r1
  have O1 := Lib.hid o1
  have N1 := Lib.hid n1
  clear r1 o1 n1
  go_wp2
  go_ret2
  rw [HE.out]
  exact GP16.more O1.out N1.out R1.out (only_put16 _ _ _ _) (R1.out.row.put 6 _) rfl rfl rfl
set_option maxRecDepth 100000 in
set_option maxHeartbeats 2000000 in
theorem fol16_s5 (x : Int) (w : World) (r : GAt w g G vf vo vl) (hst : G.st = 5) :
    Calls Tryd.prog 40 #[.pointer (some ⟨g, 0, none⟩), .int .i64 x] w (GP16 g (aft16 G x).1 vf vo vl (ansV16 (aft16 G x).2) w) := by
  have R := Lib.hid r
  have KA := Lib.hid (epoch16_any w r)
  have c6 := r.row.cell 6
  have f6 := r.row.soft 6
  simp only [gvC, List.getElem?_cons_zero, List.getElem?_cons_succ] at c6
  rw [hst] at c6
  obtain ⟨q, hq⟩ : ∃ q, ep16 G = q := ⟨_, rfl⟩
  rw [hq] at KA
  by_cases hx : x = q
  · have HE : Hid (aft16 G x = ({ G with linked := true, st := 6 }, none)) := Lib.hid (by unfold aft16; simp [hst, hq, hx])
    have e0 : (x != q) = false := by simp [hx]
    clear r hst hx hq
    go_enter Tryd.func40, Tryd.ntmps40
    go_wp2
    refine wp_scope_fwd 3 folJ (fun l => by kernel_rfl) ?_
    go_wp2_with fail
    refine KA.out.mono ?_
    rintro e w1 ⟨rfl, b1⟩
    have R1 := Lib.hid (R.out.below b1)
    have zc6 := R1.out.row.cell 6
    have zc8 := R1.out.row.cell 8
    have zf6 := R1.out.row.soft 6
    have zf8 := R1.out.row.soft 8
    simp only [gvC, List.getElem?_cons_zero, List.getElem?_cons_succ] at zc6 zc8
    have O1 := Lib.hid (Only.of_below b1 (own16 g vf vo vl))
    clear b1
    go_wp2
    go_ret2
    rw [HE.out]
    exact GP16.more O1.out (fun _ h => .inl h) R1.out ((only_put16 _ _ _ _).put16 _ _) ((R1.out.row.put 8 (.bool true)).put 6 (.int .i64 6)) rfl rfl rfl
  · have HE : Hid (aft16 G x = (idle16 G, some 9)) := Lib.hid (by unfold aft16; simp [hst, hq, hx])
    have e0 : (x != q) = true := by simpa using hx
    clear r hst hx hq
    go_enter Tryd.func40, Tryd.ntmps40
    go_wp2
    refine wp_scope_fwd 3 folJ (fun l => by kernel_rfl) ?_
    go_wp2_with fail
    refine KA.out.mono ?_
    rintro e w1 ⟨rfl, b1⟩
    have R1 := Lib.hid (R.out.below b1)
    have KE := Lib.hid (end16_any 9 w1 R1.out)
    have O1 := Lib.hid (Only.of_below b1 (own16 g vf vo vl))
    clear b1
    go_wp2_with fail
    refine KE.out.mono ?_
    rintro e w2 ⟨vf2, vo2, vl2, rfl, r2, o2, n2⟩
    have R2 := Lib.hid r2
    have O2 := Lib.hid o2
    have N2 := Lib.hid n2
    clear r2 o2 n2
    go_wp2
    go_ret2
    rw [HE.out]
    exact GP16.trans O1.out (fun _ h => .inl h) ⟨_, _, _, rfl, R2.out, O2.out, N2.out⟩
set_option maxRecDepth 100000 in
set_option maxHeartbeats 2000000 in
theorem fol16_s15 (x : Int) (w : World) (r : GAt w g G vf vo vl) (hst : G.st = 15) :
    Calls Tryd.prog 40 #[.pointer (some ⟨g, 0, none⟩), .int .i64 x] w (GP16 g (aft16 G x).1 vf vo vl (ansV16 (aft16 G x).2) w) := by
  have R := Lib.hid r
  have KA := Lib.hid (judge16_any x w r)
  have HE : Hid (aft16 G x = (idle16 (judG16 G x), some (judE16 G x))) := Lib.hid (by unfold aft16; simp [hst])
  have c6 := r.row.cell 6
  simp only [gvC, List.getElem?_cons_zero, List.getElem?_cons_succ] at c6
  rw [hst] at c6
  clear r hst
  go_enter Tryd.func40, Tryd.ntmps40
  go_wp2
  refine wp_scope_fwd 3 folJ (fun l => by kernel_rfl) ?_
  go_wp2_with fail
  refine KA.out.mono ?_
  rintro e w1 ⟨vf1, vo1, vl1, rfl, r1, o1, n1⟩
  have KE := Lib.hid (end16_any (judE16 G x) w1 r1)
  have O1 := Lib.hid o1
  have N1 := Lib.hid n1
  clear r1 o1 n1
  go_wp2_with fail
  refine KE.out.mono ?_
  rintro e w2 ⟨vf2, vo2, vl2, rfl, r2, o2, n2⟩
  have R2 := Lib.hid r2
  have O2 := Lib.hid o2
  have N2 := Lib.hid n2
  clear r2 o2 n2
  go_wp2
  go_ret2
  rw [HE.out]
  exact GP16.trans O1.out N1.out ⟨_, _, _, rfl, R2.out, O2.out, N2.out⟩
set_option maxRecDepth 100000 in
set_option maxHeartbeats 2000000 in
theorem fol16_s6 (x : Int) (w : World) (r : GAt w g G vf vo vl) (hst : G.st = 6) (hl : G.out.length ≤ 100) (hf : G.free.length ≤ 100) :
    Calls Tryd.prog 40 #[.pointer (some ⟨g, 0, none⟩), .int .i64 x] w (GP16 g (aft16 G x).1 vf vo vl (ansV16 (aft16 G x).2) w) := by
  have R := Lib.hid r
  have AD := Lib.hid (fun W => sub_any x G.tail W)
  obtain ⟨q1, hq⟩ : ∃ q, subW x G.tail = q := ⟨_, rfl⟩
  rw [hq] at AD
  obtain ⟨w2, hw2⟩ : ∃ w2, w2 = w.setCell ⟨g, 15, none⟩ (.int .i64 q1) := ⟨_, rfl⟩
  have o2 : Only (· = g) w w2 := by rw [hw2]; exact only_put16 _ _ _ _
  obtain ⟨G1, hG⟩ : ∃ G1 : Gv, G1 = { G with ret := q1 } := ⟨_, rfl⟩
  have r2 : GAt w2 g G1 vf vo vl := by rw [hG]; exact r.turn o2 (by rw [hw2]; exact r.row.put 15 (.int .i64 q1)) rfl rfl rfl
  have HQ : Hid (G1.ret = q1) := Lib.hid (by rw [hG])
  have HL1 : Hid (G1.out.length ≤ 100 ∧ G1.free.length ≤ 100) := Lib.hid (by rw [hG]; exact ⟨hl, hf⟩)
  have R2 := Lib.hid r2
  have O2 := Lib.hid (o2.mono (T := own16 g vf vo vl) (fun _ _ h => .inl h))
  have c6 := r.row.cell 6
  have c12 := r.row.cell 12
  have c15 := r.row.cell 15
  have f6 := r.row.soft 6
  have f15 := r.row.soft 15
  simp only [gvC, List.getElem?_cons_zero, List.getElem?_cons_succ] at c6 c12 c15
  rw [hst] at c6
  obtain ⟨A, c, hvo⟩ := own_open14 r.out
  obtain ⟨n, hn⟩ : ∃ n, G.out.length = n := ⟨_, rfl⟩
  rw [hn] at hvo
  have uc6 := r2.row.cell 6
  have uc10 := r2.row.cell 10
  have uc15 := r2.row.cell 15
  have uc16 := r2.row.cell 16
  have uf6 := r2.row.soft 6
  have uf16 := r2.row.soft 16
  simp only [gvC, List.getElem?_cons_zero, List.getElem?_cons_succ] at uc6 uc10 uc15 uc16
  rw [hvo] at uc10
  rw [HQ.out] at uc15
  have HN := Lib.hid hn
  clear r o2
  by_cases hlt : (n : Int) < q1
  · have HE : Hid (aft16 G x = (fin16 G1 10, none)) := Lib.hid (by unfold aft16; simp [hst, hq, HN.out, hlt, hG])
    clear r2 hst hq hvo hG
    go_enter Tryd.func40, Tryd.ntmps40
    go_wp2
    refine wp_scope_fwd 3 folJ (fun l => by kernel_rfl) ?_
    go_wp2_with (go_at_call 58; refine (AD.out _).mono ?_; rintro e w' ⟨rfl, rfl⟩)
    rw [← hw2]
    clear hw2
    go_quiet (fail)
    go_wp2
    go_step3
    try simp only [Exit.inBlock]
    try simp only [Exit.then]
    refine fwd_goto folJ0 ?_
    conv => arg 2; whnf
    go_wp2
    go_ret2
    rw [HE.out]
    refine GP16.more O2.out (fun _ h => .inl h) R2.out (by repeat (with_reducible (first | exact Only.refl _ _ | refine Only.put16 ?_ _ _ | refine Only.drewN ?_ _))) ?_ rfl rfl rfl
    exact ((R2.out.row.drewN _).put 16 (.int .i64 10)).put 6 (.int .i64 15)
  · have HE : Hid (aft16 G x = (roo16 G1, none)) := Lib.hid (by unfold aft16; simp [hst, hq, HN.out, hlt, hG])
    have KT := Lib.hid (fun m => take16_any (w2.drewN m) (r2.below (below_q w2 m)) HL1.out.1 HL1.out.2)
    clear r2 hst hq hvo hG
    go_enter Tryd.func40, Tryd.ntmps40
    go_wp2
    refine wp_scope_fwd 3 folJ (fun l => by kernel_rfl) ?_
    go_wp2_with (go_at_call 58; refine (AD.out _).mono ?_; rintro e w' ⟨rfl, rfl⟩)
    rw [← hw2]
    clear hw2
    go_quiet (fail)
    go_wp2
    by_cases h0 : 0 < G1.ret
    · have e0 : ((0 : Int) < q1) := by rw [← HQ.out]; exact h0
      have HR : Hid (roo16 G1 = { G1 with st := 7 }) := Lib.hid (by unfold roo16; rw [if_pos h0])
      clear h0
      go_step3
      try simp only [Exit.inBlock]
      try simp only [Exit.then]
      refine fwd_goto folJ1 ?_
      conv => arg 2; whnf
      go_wp2
      go_ret2
      rw [HE.out, HR.out]
      refine GP16.more O2.out (fun _ h => .inl h) R2.out (by repeat (with_reducible (first | exact Only.refl _ _ | refine Only.put16 ?_ _ _ | refine Only.drewN ?_ _))) ?_ rfl rfl rfl
      exact Row.put (R2.out.row.drewN _) 6 (.int .i64 7)
    · have e0 : ¬ ((0 : Int) < q1) := by rw [← HQ.out]; exact h0
      cases hb : takB16 G1 with
      | false =>
        have HR : Hid (roo16 G1 = fin16 G1 5) := Lib.hid (by unfold roo16; rw [if_neg h0, hb]; rfl)
        have HT : Hid (takG16 G1 = G1) := Lib.hid (by
          unfold takB16 at hb
          unfold takG16
          split
          · rfl
          · rename_i d fs he
            rw [he] at hb
            cases hb)
        rw [hb, HT.out] at KT
        clear h0 hb
        go_step3
        try simp only [Exit.inBlock]
        try simp only [Exit.then]
        refine fwd_goto folJ1 ?_
        conv => arg 2; whnf
        go_wp2_with fail
        refine (KT.out _).mono ?_
        rintro e w6 ⟨vf6, vo6, vl6, rfl, r6, o6, n6⟩
        have zc6 := r6.row.cell 6
        have zc16 := r6.row.cell 16
        have zf6 := r6.row.soft 6
        have zf16 := r6.row.soft 16
        simp only [gvC, List.getElem?_cons_zero, List.getElem?_cons_succ] at zc6 zc16
        have R6 := Lib.hid r6
        have C6 := Lib.hid (ch16 (O2.out.drewN _) (fun _ h => .inl h) o6 n6)
        clear r6 o6 n6
        go_wp2
        go_step3
        try simp only [Exit.inBlock]
        try simp only [Exit.then]
        refine fwd_goto folJ0 ?_
        conv => arg 2; whnf
        go_wp2
        go_ret2
        rw [HE.out, HR.out]
        refine GP16.more C6.out.1 C6.out.2 R6.out (by repeat (with_reducible (first | exact Only.refl _ _ | refine Only.put16 ?_ _ _ | refine Only.drewN ?_ _))) ?_ rfl rfl rfl
        exact (R6.out.row.put 16 (.int .i64 5)).put 6 (.int .i64 15)
      | true =>
        have HR : Hid (roo16 G1 = wri16 (takG16 G1)) := Lib.hid (by unfold roo16; rw [if_neg h0, hb]; rfl)
        rw [HR.out] at HE
        obtain ⟨G6, hG6⟩ : ∃ G6, takG16 G1 = G6 := ⟨_, rfl⟩
        rw [hb, hG6] at KT
        rw [hG6] at HE
        clear h0 hb hG6 HR
        go_step3
        try simp only [Exit.inBlock]
        try simp only [Exit.then]
        refine fwd_goto folJ1 ?_
        conv => arg 2; whnf
        go_wp2_with fail
        refine (KT.out _).mono ?_
        rintro e w6 ⟨vf6, vo6, vl6, rfl, r6, o6, n6⟩
        have R6 := Lib.hid r6
        have C6 := Lib.hid (ch16 (O2.out.drewN _) (fun _ h => .inl h) o6 n6)
        clear r6 o6 n6
        obtain ⟨Al, cl, hvl⟩ := own_open14 R6.out.load
        obtain ⟨nl, hnl⟩ : ∃ n, (G6).load.length = n := ⟨_, rfl⟩
        obtain ⟨kl, hkl⟩ : ∃ n, (G6).sto = n := ⟨_, rfl⟩
        rw [hnl] at hvl
        have yc6 := R6.out.row.cell 6
        have yc13 := R6.out.row.cell 13
        have yc14 := R6.out.row.cell 14
        have yf6 := R6.out.row.soft 6
        simp only [gvC, List.getElem?_cons_zero, List.getElem?_cons_succ] at yc6 yc13 yc14
        rw [hvl] at yc13
        rw [hkl] at yc14
        have HKL : Hid ((G6).load.length = nl ∧ (G6).sto = kl) := Lib.hid ⟨hnl, hkl⟩
        clear hvl hnl hkl
        by_cases hkn : kl = nl
        · have e9 : ((kl : Int) == (nl : Int)) = true := by simp [hkn]
          have HW : Hid (wri16 (G6) = { G6 with st := 9 }) := Lib.hid (by unfold wri16; rw [if_pos (by rw [HKL.out.1, HKL.out.2]; exact hkn)])
          clear hkn
          go_wp2
          go_step3
          go_wp2
          go_quiet (fail)
          go_wp2
          go_ret2
          rw [HE.out, HW.out]
          refine GP16.more C6.out.1 C6.out.2 R6.out (by repeat (with_reducible (first | exact Only.refl _ _ | refine Only.put16 ?_ _ _ | refine Only.drewN ?_ _))) ?_ rfl rfl rfl
          exact ((R6.out.row.put 6 (.int .i64 8)).drewN _).put 6 (.int .i64 9)
        · have e9 : ((kl : Int) == (nl : Int)) = false := by simp; omega
          have HW : Hid (wri16 (G6) = { G6 with st := 8 }) := Lib.hid (by unfold wri16; rw [if_neg (by rw [HKL.out.1, HKL.out.2]; exact hkn)])
          clear hkn
          go_wp2
          go_step3
          go_wp2
          go_quiet (fail)
          go_wp2
          go_ret2
          rw [HE.out, HW.out]
          refine GP16.more C6.out.1 C6.out.2 R6.out (by repeat (with_reducible (first | exact Only.refl _ _ | refine Only.put16 ?_ _ _ | refine Only.drewN ?_ _))) ?_ rfl rfl rfl
          exact (R6.out.row.put 6 (.int .i64 8)).drewN _
set_option maxRecDepth 100000 in
set_option maxHeartbeats 2000000 in
theorem fol16_s7 (x : Int) (w : World) (r : GAt w g G vf vo vl) (hst : G.st = 7) (hl : G.out.length ≤ 100) (hf : G.free.length ≤ 64) (hr : 0 < G.ret ∧ G.ret ≤ 65535) :
    Calls Tryd.prog 40 #[.pointer (some ⟨g, 0, none⟩), .int .i64 x] w (GP16 g (aft16 G x).1 vf vo vl (ansV16 (aft16 G x).2) w) := by
  have R := Lib.hid r
  by_cases hx : x ∈ G.out
  · have KR := Lib.hid (regain16_yes x w r hl (by omega) hx)
    obtain ⟨q1, hq⟩ : ∃ q, G.ret - 1 = q := ⟨_, rfl⟩
    obtain ⟨G1, hG⟩ : ∃ G1 : Gv, G1 = { regG16 G x with ret := q1 } := ⟨_, rfl⟩
    have HQ : Hid (G1.ret = q1) := Lib.hid (by rw [hG])
    have HL1 : Hid (G1.out.length ≤ 100 ∧ G1.free.length ≤ 100) := Lib.hid (by
      rw [hG]
      refine ⟨Nat.le_trans ?_ hl, ?_⟩
      · show (G.out.erase x).length ≤ G.out.length
        exact List.length_erase_le
      · show (G.free ++ [x]).length ≤ 100
        rw [List.length_append]
        simp
        omega)
    have HE : Hid (aft16 G x = (roo16 G1, none)) := Lib.hid (by unfold aft16; simp [hst, hx, hG, hq])
    have c6 := r.row.cell 6
    simp only [gvC, List.getElem?_cons_zero, List.getElem?_cons_succ] at c6
    rw [hst] at c6
    have hgr : (regG16 G x).ret = G.ret := rfl
    obtain ⟨G0, hG0⟩ : ∃ G0, regG16 G x = G0 := ⟨_, rfl⟩
    rw [hG0] at KR hG hgr
    have hwr : IntKind.i64.wrap (G.ret - 1) = q1 := by rw [hq]; exact IntWalk.i64_in _ (by omega)
    have HG := Lib.hid hG
    have HGR := Lib.hid hgr
    have HQR := Lib.hid hq
    clear r hst hx hG hG0 hgr
    go_enter Tryd.func40, Tryd.ntmps40
    go_wp2
    refine wp_scope_fwd 3 folJ (fun l => by kernel_rfl) ?_
    go_wp2_with fail
    refine KR.out.mono ?_
    rintro e w1 ⟨vf1, vo1, vl1, rfl, r1, o1, n1⟩
    have zc15 := r1.row.cell 15
    have zf15 := r1.row.soft 15
    simp only [gvC, List.getElem?_cons_zero, List.getElem?_cons_succ] at zc15
    rw [HGR.out] at zc15
    obtain ⟨w2, hw2⟩ : ∃ w2, w2 = w1.setCell ⟨g, 15, none⟩ (.int .i64 q1) := ⟨_, rfl⟩
    have o2 : Only (· = g) w1 w2 := by rw [hw2]; exact only_put16 _ _ _ _
    have r2 : GAt w2 g G1 vf1 vo1 vl1 := by rw [HG.out]; exact r1.turn o2 (by rw [hw2]; exact r1.row.put 15 (.int .i64 q1)) rfl rfl rfl
    have R2 := Lib.hid r2
    have C2 := Lib.hid (ch16 o1 n1 (o2.mono (T := own16 g vf1 vo1 vl1) (fun _ _ h => .inl h)) (fun _ h => .inl h))
    have KT := Lib.hid (take16_any w2 r2 HL1.out.1 HL1.out.2)
    have uc6 := r2.row.cell 6
    have uc15 := r2.row.cell 15
    have uc16 := r2.row.cell 16
    have uf6 := r2.row.soft 6
    have uf16 := r2.row.soft 16
    simp only [gvC, List.getElem?_cons_zero, List.getElem?_cons_succ] at uc6 uc15 uc16
    rw [HQ.out] at uc15
    clear r1 o1 n1 o2 r2
    go_wp2
    rw [← hw2]
    clear hw2
    by_cases h0 : 0 < G1.ret
    · have e0 : ((0 : Int) < q1) := by rw [← HQ.out]; exact h0
      have HR : Hid (roo16 G1 = { G1 with st := 7 }) := Lib.hid (by unfold roo16; rw [if_pos h0])
      clear h0
      go_step3
      try simp only [Exit.inBlock]
      try simp only [Exit.then]
      refine fwd_goto folJ1 ?_
      conv => arg 2; whnf
      go_wp2
      go_ret2
      rw [HE.out, HR.out]
      refine GP16.more C2.out.1 C2.out.2 R2.out (by repeat (with_reducible (first | exact Only.refl _ _ | refine Only.put16 ?_ _ _ | refine Only.drewN ?_ _))) ?_ rfl rfl rfl
      exact Row.put R2.out.row 6 (.int .i64 7)
    · have e0 : ¬ ((0 : Int) < q1) := by rw [← HQ.out]; exact h0
      cases hb : takB16 G1 with
      | false =>
        have HR : Hid (roo16 G1 = fin16 G1 5) := Lib.hid (by unfold roo16; rw [if_neg h0, hb]; rfl)
        have HT : Hid (takG16 G1 = G1) := Lib.hid (by
          unfold takB16 at hb
          unfold takG16
          split
          · rfl
          · rename_i d fs he
            rw [he] at hb
            cases hb)
        rw [hb, HT.out] at KT
        clear h0 hb
        go_step3
        try simp only [Exit.inBlock]
        try simp only [Exit.then]
        refine fwd_goto folJ1 ?_
        conv => arg 2; whnf
        go_wp2_with fail
        refine KT.out.mono ?_
        rintro e w6 ⟨vf6, vo6, vl6, rfl, r6, o6, n6⟩
        have zc6 := r6.row.cell 6
        have zc16 := r6.row.cell 16
        have zf6 := r6.row.soft 6
        have zf16 := r6.row.soft 16
        simp only [gvC, List.getElem?_cons_zero, List.getElem?_cons_succ] at zc6 zc16
        have R6 := Lib.hid r6
        have C6 := Lib.hid (ch16 C2.out.1 C2.out.2 o6 n6)
        clear r6 o6 n6
        go_wp2
        go_step3
        try simp only [Exit.inBlock]
        try simp only [Exit.then]
        refine fwd_goto folJ0 ?_
        conv => arg 2; whnf
        go_wp2
        go_ret2
        rw [HE.out, HR.out]
        refine GP16.more C6.out.1 C6.out.2 R6.out (by repeat (with_reducible (first | exact Only.refl _ _ | refine Only.put16 ?_ _ _ | refine Only.drewN ?_ _))) ?_ rfl rfl rfl
        exact (R6.out.row.put 16 (.int .i64 5)).put 6 (.int .i64 15)
      | true =>
        have HR : Hid (roo16 G1 = wri16 (takG16 G1)) := Lib.hid (by unfold roo16; rw [if_neg h0, hb]; rfl)
        rw [HR.out] at HE
        obtain ⟨G6, hG6⟩ : ∃ G6, takG16 G1 = G6 := ⟨_, rfl⟩
        rw [hb, hG6] at KT
        rw [hG6] at HE
        clear h0 hb hG6 HR
        go_step3
        try simp only [Exit.inBlock]
        try simp only [Exit.then]
        refine fwd_goto folJ1 ?_
        conv => arg 2; whnf
        go_wp2_with fail
        refine KT.out.mono ?_
        rintro e w6 ⟨vf6, vo6, vl6, rfl, r6, o6, n6⟩
        have R6 := Lib.hid r6
        have C6 := Lib.hid (ch16 C2.out.1 C2.out.2 o6 n6)
        clear r6 o6 n6
        obtain ⟨Al, cl, hvl⟩ := own_open14 R6.out.load
        obtain ⟨nl, hnl⟩ : ∃ n, (G6).load.length = n := ⟨_, rfl⟩
        obtain ⟨kl, hkl⟩ : ∃ n, (G6).sto = n := ⟨_, rfl⟩
        rw [hnl] at hvl
        have yc6 := R6.out.row.cell 6
        have yc13 := R6.out.row.cell 13
        have yc14 := R6.out.row.cell 14
        have yf6 := R6.out.row.soft 6
        simp only [gvC, List.getElem?_cons_zero, List.getElem?_cons_succ] at yc6 yc13 yc14
        rw [hvl] at yc13
        rw [hkl] at yc14
        have HKL : Hid ((G6).load.length = nl ∧ (G6).sto = kl) := Lib.hid ⟨hnl, hkl⟩
        clear hvl hnl hkl
        by_cases hkn : kl = nl
        · have e9 : ((kl : Int) == (nl : Int)) = true := by simp [hkn]
          have HW : Hid (wri16 (G6) = { G6 with st := 9 }) := Lib.hid (by unfold wri16; rw [if_pos (by rw [HKL.out.1, HKL.out.2]; exact hkn)])
          clear hkn
          go_wp2
          go_step3
          go_wp2
          go_quiet (fail)
          go_wp2
          go_ret2
          rw [HE.out, HW.out]
          refine GP16.more C6.out.1 C6.out.2 R6.out (by repeat (with_reducible (first | exact Only.refl _ _ | refine Only.put16 ?_ _ _ | refine Only.drewN ?_ _))) ?_ rfl rfl rfl
          exact ((R6.out.row.put 6 (.int .i64 8)).drewN _).put 6 (.int .i64 9)
        · have e9 : ((kl : Int) == (nl : Int)) = false := by simp; omega
          have HW : Hid (wri16 (G6) = { G6 with st := 8 }) := Lib.hid (by unfold wri16; rw [if_neg (by rw [HKL.out.1, HKL.out.2]; exact hkn)])
          clear hkn
          go_wp2
          go_step3
          go_wp2
          go_quiet (fail)
          go_wp2
          go_ret2
          rw [HE.out, HW.out]
          refine GP16.more C6.out.1 C6.out.2 R6.out (by repeat (with_reducible (first | exact Only.refl _ _ | refine Only.put16 ?_ _ _ | refine Only.drewN ?_ _))) ?_ rfl rfl rfl
          exact (R6.out.row.put 6 (.int .i64 8)).drewN _
  · have KR := Lib.hid (regain16_no x w r hl hx)
    have HE : Hid (aft16 G x = (fin16 G 10, none)) := Lib.hid (by unfold aft16; simp [hst, hx])
    have c6 := r.row.cell 6
    have c16 := r.row.cell 16
    have f6 := r.row.soft 6
    have f16 := r.row.soft 16
    simp only [gvC, List.getElem?_cons_zero, List.getElem?_cons_succ] at c6 c16
    rw [hst] at c6
    clear r hst hx
    go_enter Tryd.func40, Tryd.ntmps40
    go_wp2
    refine wp_scope_fwd 3 folJ (fun l => by kernel_rfl) ?_
    go_wp2_with fail
    refine KR.out.mono ?_
    rintro e w' ⟨rfl, rfl⟩
    go_wp2
    go_step3
    try simp only [Exit.inBlock]
    try simp only [Exit.then]
    refine fwd_goto folJ0 ?_
    conv => arg 2; whnf
    go_wp2
    go_ret2
    rw [HE.out]
    refine GP16.one R.out (by repeat (with_reducible (first | exact Only.refl _ _ | refine Only.put16 ?_ _ _ | refine Only.drewN ?_ _))) ?_ rfl rfl rfl
    exact (R.out.row.put 16 (.int .i64 10)).put 6 (.int .i64 15)
/-- A new link is laid. -/
theorem GAt.setLink {w w1 : World} (r : GAt w g G vf vo vl) {f n : Nat} (hb : Below w.heap.size w w1) (hf : Row w1 f 3 (ints (upto16 n))) (hfn : w.heap.size ≤ f) (hn : n ≤ 64) :
    GAt (((((w1.setCell ⟨g, 8, none⟩ (.bool false)).setCell ⟨g, 9, none⟩ (.slice (some ⟨f, 0, none⟩) n n)).setCell ⟨g, 10, none⟩ (.slice none 0 0)).setCell ⟨g, 11, none⟩ (.int .i64 0)).setCell ⟨g, 12, none⟩ (.int .i64 0)) g { G with linked := false, free := upto16 n, out := [], next := 0, tail := 0 } (.slice (some ⟨f, 0, none⟩) n n) (.slice none 0 0) vl ∧
    Only (own16 g vf vo vl) w (((((w1.setCell ⟨g, 8, none⟩ (.bool false)).setCell ⟨g, 9, none⟩ (.slice (some ⟨f, 0, none⟩) n n)).setCell ⟨g, 10, none⟩ (.slice none 0 0)).setCell ⟨g, 11, none⟩ (.int .i64 0)).setCell ⟨g, 12, none⟩ (.int .i64 0)) ∧ ∀ x, own16 g (.slice (some ⟨f, 0, none⟩) n n) (.slice none 0 0) vl x → own16 g vf vo vl x ∨ w.heap.size ≤ x := by
  have R := r.below hb
  have ho : Only (· = g) w1 (((((w1.setCell ⟨g, 8, none⟩ (.bool false)).setCell ⟨g, 9, none⟩ (.slice (some ⟨f, 0, none⟩) n n)).setCell ⟨g, 10, none⟩ (.slice none 0 0)).setCell ⟨g, 11, none⟩ (.int .i64 0)).setCell ⟨g, 12, none⟩ (.int .i64 0)) :=
    ((((only_put16 w1 g 8 _).put16 9 _).put16 10 _).put16 11 _).put16 12 _
  have hr := ((((R.row.put 8 (.bool false)).put 9 (.slice (some ⟨f, 0, none⟩) n n)).put 10 (.slice none 0 0)).put 11 (.int .i64 0)).put 12 (.int .i64 0)
  have hgl := r.row.lt
  have hl := upto16_len n
  refine ⟨⟨hr, ?_, World.ownsRow_nil _ _ _ _, ?_, (fun _ _ h => by cases h), fun x hx e => ?_, (fun _ h => by cases h)⟩, (Only.of_below hb _).trans (ho.mono (fun _ _ h => .inl h)), fun x h => ?_⟩
  · refine ⟨by show (ints (upto16 n)).length = (upto16 n).length * 1; rw [ints_len, Nat.mul_one], .inr ⟨f, n, (ints (upto16 n)).toArray, by show _ = Value.slice _ (upto16 n).length _; rw [hl], Nat.zero_le _, hf.only ho (by omega), by show (upto16 n).length ≤ n; omega, by unfold maxLen; omega, by simp [ints_len, hl], ?_⟩⟩
    show List.take ((upto16 n).length * 1) (ints (upto16 n)) = ints (upto16 n)
    rw [List.take_of_length_le (by rw [ints_len]; omega)]
  · exact own_quiet R.load (fun x hx => ho.block x (R.load.lt x hx).2 (fun e => R.lg (by rw [hx, e])))
  · simp only [Value.ownBlock, Option.some.injEq] at hx
    have := (r.load.lt x e).2
    omega
  · rcases h with h | h | h | h
    · exact .inl (.inl h)
    · simp only [Value.ownBlock, Option.some.injEq] at h
      exact .inr (by omega)
    · cases h
    · exact .inl (.inr (.inr (.inr h)))
set_option maxRecDepth 100000 in
set_option maxHeartbeats 2000000 in
theorem fol16_s4 (x : Int) (w : World) (r : GAt w g G vf vo vl) (hst : G.st = 4) (hR : G.R ≤ 64) :
    Calls Tryd.prog 40 #[.pointer (some ⟨g, 0, none⟩), .int .i64 x] w (GP16 g (aft16 G x).1 vf vo vl (ansV16 (aft16 G x).2) w) := by
  have R := Lib.hid r
  have UN := Lib.hid (unlinked16_any G.R hR w)
  have HE : Hid (aft16 G x = (idle16 { G with linked := false, free := upto16 G.R, out := [], next := 0, tail := 0 }, some 8)) := Lib.hid (by unfold aft16; simp [hst])
  have c1 := r.row.cell 1
  have c6 := r.row.cell 6
  simp only [gvC, List.getElem?_cons_zero, List.getElem?_cons_succ] at c1 c6
  rw [hst] at c6
  clear r hst
  go_enter Tryd.func40, Tryd.ntmps40
  go_wp2
  refine wp_scope_fwd 3 folJ (fun l => by kernel_rfl) ?_
  go_wp2_with fail
  refine UN.out.mono ?_
  rintro e w1 ⟨f, rfl, rf, hf, hb⟩
  have S1 := Lib.hid (R.out.setLink hb rf hf hR)
  have R1 := Lib.hid (R.out.below hb)
  have zc8 := R1.out.row.cell 8
  have zc9 := R1.out.row.cell 9
  have zc10 := R1.out.row.cell 10
  have zc11 := R1.out.row.cell 11
  have zc12 := R1.out.row.cell 12
  have zf8 := R1.out.row.soft 8
  have zf9 := R1.out.row.soft 9
  have zf10 := R1.out.row.soft 10
  have zf11 := R1.out.row.soft 11
  have zf12 := R1.out.row.soft 12
  simp only [gvC, List.getElem?_cons_zero, List.getElem?_cons_succ] at zc8 zc9 zc10 zc11 zc12
  have KE := Lib.hid (end16_any 8 _ S1.out.1)
  clear rf hf hb
  go_wp2_with fail
  refine KE.out.mono ?_
  rintro e w2 ⟨vf2, vo2, vl2, rfl, r2, o2, n2⟩
  have R2 := Lib.hid r2
  have O2 := Lib.hid o2
  have N2 := Lib.hid n2
  clear r2 o2 n2
  go_wp2
  go_ret2
  rw [HE.out]
  exact GP16.trans S1.out.2.1 S1.out.2.2 ⟨_, _, _, rfl, R2.out, O2.out, N2.out⟩
/-- What follow asks of the numbers. -/
structure Fit16 (G : Gv) : Prop where
  st : 1 ≤ G.st ∧ G.st ≤ 15
  R : G.R ≤ 64
  out : G.out.length ≤ 64
  free : G.free.length ≤ 64
  sto : G.sto ≤ 100
  ret : G.st = 7 → 0 < G.ret ∧ G.ret ≤ 65535
theorem fol16_any (x : Int) (w : World) (r : GAt w g G vf vo vl) (h : Fit16 G) :
    Calls Tryd.prog 40 #[.pointer (some ⟨g, 0, none⟩), .int .i64 x] w (GP16 g (aft16 G x).1 vf vo vl (ansV16 (aft16 G x).2) w) := by
  obtain ⟨h1, h15⟩ := h.st
  have ho := h.out
  have hf := h.free
  have : G.st = 1 ∨ G.st = 2 ∨ G.st = 3 ∨ G.st = 4 ∨ G.st = 5 ∨ G.st = 6 ∨ G.st = 7 ∨ G.st = 8 ∨ G.st = 9 ∨ G.st = 10 ∨ G.st = 11 ∨ G.st = 12 ∨ G.st = 13 ∨ G.st = 14 ∨ G.st = 15 := by omega
  rcases this with e | e | e | e | e | e | e | e | e | e | e | e | e | e | e
  · exact fol16_s1 x w r e
  · exact fol16_s2 x w r e
  · exact fol16_s3 x w r e
  · exact fol16_s4 x w r e h.R
  · exact fol16_s5 x w r e
  · exact fol16_s6 x w r e (by omega) (by omega)
  · exact fol16_s7 x w r e (by omega) hf (h.ret e)
  · exact fol16_s8 x w r e h.sto
  · exact fol16_s9 x w r e
  · exact fol16_s10 x w r e
  · exact fol16_s11 x w r e
  · exact fol16_s12 x w r e
  · exact fol16_s13 x w r e
  · exact fol16_s14 x w r e
  · exact fol16_s15 x w r e
end
end

section
open Go.ChangeShapes Go.WideShapes Go.ChangeAt Go.RowKit
set_option maxRecDepth 100000 in
set_option maxHeartbeats 1000000 in
theorem caught16 {tb g : Nat} (w : World) (h0 : w.cell? ⟨tb, 0, none⟩ = some (.pointer (some ⟨g, 0, none⟩))) (h7 : w.cell? ⟨g, 7, none⟩ = some (.bool true)) (hf : w.frozen? ⟨g, 7, none⟩ = false) :
    CallsD Tryd.prog 62 #[.pointer (some ⟨tb, 0, none⟩)] .returning w fun e u' w' => e = .returned (.tuple #[]) ∧ u' = .returning ∧ w' = w.setCell ⟨g, 7, none⟩ (.bool false) := by
  refine callsD_of_wpS Tryd.func62 rfl fun c₀ cs hu => ?_
  simp only [Tryd.ntmps62, List.size_toArray, List.length_cons, List.length_nil, Nat.reduceAdd, Nat.reduceSub, Array.replicate_succ, Array.replicate_zero, List.push_toArray, List.append_toArray, List.nil_append, List.cons_append]
  apply wpS_seq
  apply wpS_of_wp
  go_wp2
  simp only [Exit.thenS]
  apply wpS_region
  simp [wpOpsS, go_sem, recoverD, hu]
  cases c₀
  simp_all [bodyPostS, results, Tryd.results62]
/-- The giver's address of the word that it accesses next, its kind and what is stored. -/
def tch16 (G : Gv) : Tch :=
  if G.st = 1 ∨ G.st = 15 then (4, G.peer, 0)
  else if G.st = 2 then (2, ad16 G 3 0 0, 0)
  else if G.st = 3 then (2, ad16 G 1 0 0, ep16 G)
  else if G.st = 5 then (1, ad16 G 2 0 0, 0)
  else if G.st = 6 then (1, ad16 G 4 0 0, 0)
  else if G.st = 7 then (1, ad16 G 6 (G.tail % (G.R : Int)) 0, 0)
  else if G.st = 8 then (2, ad16 G 8 (tk16 G) (G.sto : Int), G.load.getD G.sto 0)
  else if G.st = 9 then (2, ad16 G 7 (tk16 G) 0, (G.load.length : Int))
  else if G.st = 10 then (2, ad16 G 5 (G.next % (G.R : Int)) 0, tk16 G)
  else if G.st = 12 then (2, ad16 G 3 0 0, addW G.next 1)
  else if G.st = 14 then (5, G.peer, 0)
  else (3, 0, 0)
/-- The giver while its port makes an access. -/
def in16 (G : Gv) : Gv := { G with ins := true }
/-- What access asks of the numbers. -/
structure Acc16 (G : Gv) : Prop where
  ins : G.ins = false
  B : 0 ≤ G.B ∧ G.B ≤ 65535
  R : 1 ≤ G.R ∧ G.R ≤ 64
  next : 0 ≤ G.next ∧ G.next ≤ 65535
  tail : 0 ≤ G.tail ∧ G.tail ≤ 65535
  out : G.out.length ≤ 64
  held : 8 ≤ G.st → G.st ≤ 10 → G.out ≠ []
  word : G.st = 8 → G.sto < G.load.length
  len : G.load.length ≤ 8
section
variable {g : Nat} {G : Gv} {vf vo vl : Value}
/-- The variable of the receiver, and the mark. -/
theorem enter16 (w : World) (r : GAt w g G vf vo vl) :
    Row ((w.setCell ⟨g, 7, none⟩ (.bool true)).alloc (.cells #[.pointer (some ⟨g, 0, none⟩)] 29)) w.heap.size 29 [.pointer (some ⟨g, 0, none⟩)] ∧
    GAt ((w.setCell ⟨g, 7, none⟩ (.bool true)).alloc (.cells #[.pointer (some ⟨g, 0, none⟩)] 29)) g (in16 G) vf vo vl ∧
    Only (· = g) w ((w.setCell ⟨g, 7, none⟩ (.bool true)).alloc (.cells #[.pointer (some ⟨g, 0, none⟩)] 29)) := by
  have o := only_put16 w g 7 (.bool true)
  have r1 : GAt (w.setCell ⟨g, 7, none⟩ (.bool true)) g (in16 G) vf vo vl := r.turn o (r.row.put 7 (.bool true)) rfl rfl rfl
  have b := below_al (w.setCell ⟨g, 7, none⟩ (.bool true)) (.cells #[.pointer (some ⟨g, 0, none⟩)] 29)
  have rn := Row.new (w.setCell ⟨g, 7, none⟩ (.bool true)) 29 #[.pointer (some ⟨g, 0, none⟩)]
  rw [show (w.setCell ⟨g, 7, none⟩ (.bool true)).heap.size = w.heap.size from by simp [World.setCell]] at rn
  exact ⟨rn, r1.below b, o.then_below b⟩
/-- What an access leaves, by a Trace that forwards to a Plain. -/
def AccT (g : Nat) (G : Gv) (vf vo vl : Value) (t p a b : Nat) (k v : Value) (V E K : List Int) (T : List Tch) (n : Int) (w : World) (e : Ending) (w' : World) : Prop :=
  ∃ k' v', e = .returned (.int .i64 n) ∧ GAt w' g G vf vo vl ∧ PtAt w' t p a b k' v' V E K T ∧ Only (fun x => own14 t p a k v x ∨ x = g) w w' ∧ (k'.ownBlock = k.ownBlock ∨ ∃ x, k'.ownBlock = some x ∧ w.heap.size ≤ x) ∧ (v'.ownBlock = v.ownBlock ∨ ∃ x, v'.ownBlock = some x ∧ w.heap.size ≤ x)
/-- The mark is taken away again. -/
theorem leave16 {w w1 w2 : World} {S : Nat → Prop} (hi : G.ins = false) (o1 : Only (· = g) w w1) (r2 : GAt w2 g (in16 G) vf vo vl) (o2 : Only S w1 w2) :
    GAt (w2.setCell ⟨g, 7, none⟩ (.bool false)) g G vf vo vl ∧ Only (fun x => S x ∨ x = g) w (w2.setCell ⟨g, 7, none⟩ (.bool false)) := by
  have o3 := only_put16 w2 g 7 (.bool false)
  refine ⟨r2.turn o3 ?_ rfl rfl rfl, ((o1.mono (fun _ _ h => .inr h)).trans (o2.mono (fun _ _ h => .inl h))).trans (o3.mono (fun _ _ h => .inr h))⟩
  have := r2.row.put 7 (.bool false)
  rw [show gvC G vf vo vl = (gvC (in16 G) vf vo vl).set 7 (.bool false) from by simp [gvC, in16, hi]]
  exact this
theorem endT16 {t p a b : Nat} {k v k2 v2 : Value} {E V' K' : List Int} {T' : List Tch} {n : Int} {w w1 w2 : World} (hi : G.ins = false) (o1 : Only (· = g) w w1) (r2 : GAt w2 g (in16 G) vf vo vl) (rp : PtAt w2 t p a b k2 v2 V' E K' T') (o2 : Only (own14 t p a k v) w1 w2)
    (hg : ∀ x, own14 t p a k v x ∨ x = b → x ≠ g) (hlt : g < w.heap.size) (hk : k2.ownBlock = k.ownBlock ∨ ∃ x, k2.ownBlock = some x ∧ w.heap.size ≤ x) (hv : v2.ownBlock = v.ownBlock ∨ ∃ x, v2.ownBlock = some x ∧ w.heap.size ≤ x) :
    AccT g G vf vo vl t p a b k v V' E K' T' n w (.returned (.int .i64 n)) (w2.setCell ⟨g, 7, none⟩ (.bool false)) := by
  obtain ⟨r3, o3⟩ := leave16 hi o1 r2 o2
  refine ⟨k2, v2, rfl, r3, rp.only (only_put16 w2 g 7 _) (fun x hx e => ?_), o3, hk, hv⟩
  rcases hx with hx | hx
  · rcases hx with hx | hx | hx | hx | hx
    · exact hg x (.inl (.inl hx)) e
    · exact hg x (.inl (.inr (.inl hx))) e
    · exact hg x (.inl (.inr (.inr (.inl hx)))) e
    · rcases hk with h | ⟨y, h, hy⟩
      · exact hg x (.inl (.inr (.inr (.inr (.inl (by rw [← h]; exact hx)))))) e
      · rw [hx] at h; injection h with h; omega
    · rcases hv with h | ⟨y, h, hy⟩
      · exact hg x (.inl (.inr (.inr (.inr (.inr (by rw [← h]; exact hx)))))) e
      · rw [hx] at h; injection h with h; omega
  · exact hg x (.inr hx) e
/-! ### The table of the fields, by a set of changed blocks -/
theorem TabAt.only {S : Nat → Prop} {w w' : World} (h : TabAt w) (ho : Only S w w') (hn : ¬ S 0) : TabAt w' := by
  have hk : ∀ o, w'.cell? ⟨0, o, none⟩ = w.cell? ⟨0, o, none⟩ := fun o => World.cell?_of_block (w := w) (ho.block _ h.lt hn)
  intro k hk9
  rw [hk, hk, hk, hk]
  exact h k hk9
theorem tab_ne {w : World} (h : TabAt w) (r : GAt w g G vf vo vl) : 0 ≠ g := by
  intro e
  have h3 : w.cell? ⟨0, 3, none⟩ = some (.bool false) := (h 0 (by omega)).2.2.2
  have h4 : w.cell? ⟨g, 3, none⟩ = some (.int .i64 G.own) := r.row.cell 3
  rw [← e, h3] at h4
  cases h4
end
end

section
open Go.ChangeShapes Go.WideShapes Go.ChangeAt Go.RowKit
section
variable {g : Nat} {G : Gv} {vf vo vl : Value} {t p a b : Nat} {k v : Value} {V E K : List Int} {T : List Tch}
set_option maxRecDepth 100000 in
set_option maxHeartbeats 4000000 in
theorem accT_s4 (w : World) (r : GAt w g G vf vo vl) (h : Acc16 G) (rp : PtAt w t p a b k v V E K T) (hT : TabAt w) (hdis : ∀ x, own16 g vf vo vl x → ¬ (own14 t p a k v x ∨ x = b)) (hl : T.length ≤ 65536) (hst : G.st = 4) :
    Calls Tryd.prog 41 #[.pointer (some ⟨g, 0, none⟩), tface14 t] w (AccT g G vf vo vl t p a b k v V E K (T ++ [(3, 0, 0)]) 0 w) := by
  have hmf : ∀ (fn : Fn) (first cap : Array Value) (w : World), (Instr.makeFunc fn first cap).run Tryd.prog w = .ok (.func fn first cap) w := fun _ _ _ _ => rfl
  have f7 := r.row.soft 7
  have c7 := r.row.cell 7
  have c6 := r.row.cell 6
  simp only [gvC, List.getElem?_cons_zero, List.getElem?_cons_succ] at c6 c7
  rw [h.ins] at c7
  rw [hst] at c6
  have hgl := r.row.lt
  have HLT := Lib.hid rp.lt
  have HI := Lib.hid h.ins
  obtain ⟨e0, e1, e2⟩ := enter16 w r
  obtain ⟨w1, hw1⟩ : ∃ w1, w1 = (w.setCell ⟨g, 7, none⟩ (.bool true)).alloc (.cells #[.pointer (some ⟨g, 0, none⟩)] 29) := ⟨_, rfl⟩
  rw [← hw1] at e0 e1 e2
  have hsz := e2.size
  have hgd : ∀ x, own14 t p a k v x ∨ x = b → x ≠ g := fun x hx e => hdis g (.inl rfl) (by rw [← e]; exact hx)
  have rp1 := rp.only e2 (fun x hx e => hgd x hx e)
  have hT1 : TabAt w1 := hT.only e2 (fun e => tab_ne hT r e)
  have z0 : w1.cell? ⟨w.heap.size, 0, none⟩ = some (.pointer (some ⟨g, 0, none⟩)) := e0.cell 0
  have E0 := Lib.hid e0
  have E1 := Lib.hid e1
  have E2 := Lib.hid e2
  have HGD := Lib.hid hgd
  have HD := Lib.hid (fun x (hx : own16 g vf vo vl x) (hy : own14 t p a k v x) => hdis x hx (.inl hy))
  clear r h rp hT hdis e0 e1 e2 hgd hst
  unfold tface14
  go_enter_defers Tryd.func41, Tryd.ntmps41
  go_wp2_with fail
  rw [← hw1]
  clear hw1
  refine (tfence14_any w1 rp1 hl).mono ?_
  rintro e w2 ⟨k2, v2, rfl, r2, o2, hk2, hv2⟩
  go_wp2_with fail
  have G2 := Lib.hid (E1.out.only o2 (fun x hx hy => HD.out x hx hy))
  have T2 := Lib.hid (E0.out.only o2 (fun e => by have := HLT.out _ (.inl e); omega))
  have y0 : w2.cell? ⟨w.heap.size, 0, none⟩ = some (.pointer (some ⟨g, 0, none⟩)) := T2.out.cell 0
  have y7 := G2.out.row.cell 7
  have g7 := G2.out.row.soft 7
  simp only [gvC, in16, List.getElem?_cons_zero, List.getElem?_cons_succ] at y7
  refine leaves_cons (f := 62) (args := #[.pointer (some ⟨w.heap.size, 0, none⟩)]) (by simp) (by simp [go_sem]) ?_
  refine (caught16 w2 y0 y7 g7).mono ?_
  rintro e u' w3 ⟨rfl, rfl, rfl⟩
  simp [Leaves, settle, results, Tryd.results41, go_sem]
  exact endT16 HI.out E2.out G2.out r2 o2 HGD.out hgl (hk2.imp id (fun ⟨x, h1, h2⟩ => ⟨x, h1, by omega⟩)) (hv2.imp id (fun ⟨x, h1, h2⟩ => ⟨x, h1, by omega⟩))
set_option maxRecDepth 100000 in
set_option maxHeartbeats 4000000 in
theorem accT_s11 (w : World) (r : GAt w g G vf vo vl) (h : Acc16 G) (rp : PtAt w t p a b k v V E K T) (hT : TabAt w) (hdis : ∀ x, own16 g vf vo vl x → ¬ (own14 t p a k v x ∨ x = b)) (hl : T.length ≤ 65536) (hst : G.st = 11) :
    Calls Tryd.prog 41 #[.pointer (some ⟨g, 0, none⟩), tface14 t] w (AccT g G vf vo vl t p a b k v V E K (T ++ [(3, 0, 0)]) 0 w) := by
  have hmf : ∀ (fn : Fn) (first cap : Array Value) (w : World), (Instr.makeFunc fn first cap).run Tryd.prog w = .ok (.func fn first cap) w := fun _ _ _ _ => rfl
  have f7 := r.row.soft 7
  have c7 := r.row.cell 7
  have c6 := r.row.cell 6
  simp only [gvC, List.getElem?_cons_zero, List.getElem?_cons_succ] at c6 c7
  rw [h.ins] at c7
  rw [hst] at c6
  have hgl := r.row.lt
  have HLT := Lib.hid rp.lt
  have HI := Lib.hid h.ins
  obtain ⟨e0, e1, e2⟩ := enter16 w r
  obtain ⟨w1, hw1⟩ : ∃ w1, w1 = (w.setCell ⟨g, 7, none⟩ (.bool true)).alloc (.cells #[.pointer (some ⟨g, 0, none⟩)] 29) := ⟨_, rfl⟩
  rw [← hw1] at e0 e1 e2
  have hsz := e2.size
  have hgd : ∀ x, own14 t p a k v x ∨ x = b → x ≠ g := fun x hx e => hdis g (.inl rfl) (by rw [← e]; exact hx)
  have rp1 := rp.only e2 (fun x hx e => hgd x hx e)
  have hT1 : TabAt w1 := hT.only e2 (fun e => tab_ne hT r e)
  have z0 : w1.cell? ⟨w.heap.size, 0, none⟩ = some (.pointer (some ⟨g, 0, none⟩)) := e0.cell 0
  have E0 := Lib.hid e0
  have E1 := Lib.hid e1
  have E2 := Lib.hid e2
  have HGD := Lib.hid hgd
  have HD := Lib.hid (fun x (hx : own16 g vf vo vl x) (hy : own14 t p a k v x) => hdis x hx (.inl hy))
  clear r h rp hT hdis e0 e1 e2 hgd hst
  unfold tface14
  go_enter_defers Tryd.func41, Tryd.ntmps41
  go_wp2_with fail
  rw [← hw1]
  clear hw1
  refine (tfence14_any w1 rp1 hl).mono ?_
  rintro e w2 ⟨k2, v2, rfl, r2, o2, hk2, hv2⟩
  go_wp2_with fail
  have G2 := Lib.hid (E1.out.only o2 (fun x hx hy => HD.out x hx hy))
  have T2 := Lib.hid (E0.out.only o2 (fun e => by have := HLT.out _ (.inl e); omega))
  have y0 : w2.cell? ⟨w.heap.size, 0, none⟩ = some (.pointer (some ⟨g, 0, none⟩)) := T2.out.cell 0
  have y7 := G2.out.row.cell 7
  have g7 := G2.out.row.soft 7
  simp only [gvC, in16, List.getElem?_cons_zero, List.getElem?_cons_succ] at y7
  refine leaves_cons (f := 62) (args := #[.pointer (some ⟨w.heap.size, 0, none⟩)]) (by simp) (by simp [go_sem]) ?_
  refine (caught16 w2 y0 y7 g7).mono ?_
  rintro e u' w3 ⟨rfl, rfl, rfl⟩
  simp [Leaves, settle, results, Tryd.results41, go_sem]
  exact endT16 HI.out E2.out G2.out r2 o2 HGD.out hgl (hk2.imp id (fun ⟨x, h1, h2⟩ => ⟨x, h1, by omega⟩)) (hv2.imp id (fun ⟨x, h1, h2⟩ => ⟨x, h1, by omega⟩))
set_option maxRecDepth 100000 in
set_option maxHeartbeats 4000000 in
theorem accT_s13 (w : World) (r : GAt w g G vf vo vl) (h : Acc16 G) (rp : PtAt w t p a b k v V E K T) (hT : TabAt w) (hdis : ∀ x, own16 g vf vo vl x → ¬ (own14 t p a k v x ∨ x = b)) (hl : T.length ≤ 65536) (hst : G.st = 13) :
    Calls Tryd.prog 41 #[.pointer (some ⟨g, 0, none⟩), tface14 t] w (AccT g G vf vo vl t p a b k v V E K (T ++ [(3, 0, 0)]) 0 w) := by
  have hmf : ∀ (fn : Fn) (first cap : Array Value) (w : World), (Instr.makeFunc fn first cap).run Tryd.prog w = .ok (.func fn first cap) w := fun _ _ _ _ => rfl
  have f7 := r.row.soft 7
  have c7 := r.row.cell 7
  have c6 := r.row.cell 6
  simp only [gvC, List.getElem?_cons_zero, List.getElem?_cons_succ] at c6 c7
  rw [h.ins] at c7
  rw [hst] at c6
  have hgl := r.row.lt
  have HLT := Lib.hid rp.lt
  have HI := Lib.hid h.ins
  obtain ⟨e0, e1, e2⟩ := enter16 w r
  obtain ⟨w1, hw1⟩ : ∃ w1, w1 = (w.setCell ⟨g, 7, none⟩ (.bool true)).alloc (.cells #[.pointer (some ⟨g, 0, none⟩)] 29) := ⟨_, rfl⟩
  rw [← hw1] at e0 e1 e2
  have hsz := e2.size
  have hgd : ∀ x, own14 t p a k v x ∨ x = b → x ≠ g := fun x hx e => hdis g (.inl rfl) (by rw [← e]; exact hx)
  have rp1 := rp.only e2 (fun x hx e => hgd x hx e)
  have hT1 : TabAt w1 := hT.only e2 (fun e => tab_ne hT r e)
  have z0 : w1.cell? ⟨w.heap.size, 0, none⟩ = some (.pointer (some ⟨g, 0, none⟩)) := e0.cell 0
  have E0 := Lib.hid e0
  have E1 := Lib.hid e1
  have E2 := Lib.hid e2
  have HGD := Lib.hid hgd
  have HD := Lib.hid (fun x (hx : own16 g vf vo vl x) (hy : own14 t p a k v x) => hdis x hx (.inl hy))
  clear r h rp hT hdis e0 e1 e2 hgd hst
  unfold tface14
  go_enter_defers Tryd.func41, Tryd.ntmps41
  go_wp2_with fail
  rw [← hw1]
  clear hw1
  refine (tfence14_any w1 rp1 hl).mono ?_
  rintro e w2 ⟨k2, v2, rfl, r2, o2, hk2, hv2⟩
  go_wp2_with fail
  have G2 := Lib.hid (E1.out.only o2 (fun x hx hy => HD.out x hx hy))
  have T2 := Lib.hid (E0.out.only o2 (fun e => by have := HLT.out _ (.inl e); omega))
  have y0 : w2.cell? ⟨w.heap.size, 0, none⟩ = some (.pointer (some ⟨g, 0, none⟩)) := T2.out.cell 0
  have y7 := G2.out.row.cell 7
  have g7 := G2.out.row.soft 7
  simp only [gvC, in16, List.getElem?_cons_zero, List.getElem?_cons_succ] at y7
  refine leaves_cons (f := 62) (args := #[.pointer (some ⟨w.heap.size, 0, none⟩)]) (by simp) (by simp [go_sem]) ?_
  refine (caught16 w2 y0 y7 g7).mono ?_
  rintro e u' w3 ⟨rfl, rfl, rfl⟩
  simp [Leaves, settle, results, Tryd.results41, go_sem]
  exact endT16 HI.out E2.out G2.out r2 o2 HGD.out hgl (hk2.imp id (fun ⟨x, h1, h2⟩ => ⟨x, h1, by omega⟩)) (hv2.imp id (fun ⟨x, h1, h2⟩ => ⟨x, h1, by omega⟩))
set_option maxRecDepth 100000 in
set_option maxHeartbeats 4000000 in
theorem accT_s1 (w : World) (r : GAt w g G vf vo vl) (h : Acc16 G) (rp : PtAt w t p a b k v V E K T) (hT : TabAt w) (hdis : ∀ x, own16 g vf vo vl x → ¬ (own14 t p a k v x ∨ x = b)) (hl : T.length ≤ 65536) (hst : G.st = 1) :
    Calls Tryd.prog 41 #[.pointer (some ⟨g, 0, none⟩), tface14 t] w (AccT g G vf vo vl t p a b k v V E K (T ++ [(4, G.peer, nth14 E G.peer)]) (nth14 E G.peer) w) := by
  have hmf : ∀ (fn : Fn) (first cap : Array Value) (w : World), (Instr.makeFunc fn first cap).run Tryd.prog w = .ok (.func fn first cap) w := fun _ _ _ _ => rfl
  have f7 := r.row.soft 7
  have c7 := r.row.cell 7
  have c6 := r.row.cell 6
  simp only [gvC, List.getElem?_cons_zero, List.getElem?_cons_succ] at c6 c7
  rw [h.ins] at c7
  rw [hst] at c6
  have hgl := r.row.lt
  have HLT := Lib.hid rp.lt
  have HI := Lib.hid h.ins
  obtain ⟨e0, e1, e2⟩ := enter16 w r
  obtain ⟨w1, hw1⟩ : ∃ w1, w1 = (w.setCell ⟨g, 7, none⟩ (.bool true)).alloc (.cells #[.pointer (some ⟨g, 0, none⟩)] 29) := ⟨_, rfl⟩
  rw [← hw1] at e0 e1 e2
  have hsz := e2.size
  have hgd : ∀ x, own14 t p a k v x ∨ x = b → x ≠ g := fun x hx e => hdis g (.inl rfl) (by rw [← e]; exact hx)
  have rp1 := rp.only e2 (fun x hx e => hgd x hx e)
  have hT1 : TabAt w1 := hT.only e2 (fun e => tab_ne hT r e)
  have z0 : w1.cell? ⟨w.heap.size, 0, none⟩ = some (.pointer (some ⟨g, 0, none⟩)) := e0.cell 0
  have c2 := e1.row.cell 2
  simp only [gvC, in16, List.getElem?_cons_zero, List.getElem?_cons_succ] at c2
  have E0 := Lib.hid e0
  have E1 := Lib.hid e1
  have E2 := Lib.hid e2
  have HGD := Lib.hid hgd
  have HD := Lib.hid (fun x (hx : own16 g vf vo vl x) (hy : own14 t p a k v x) => hdis x hx (.inl hy))
  clear r h rp hT hdis e0 e1 e2 hgd hst
  have KP := Lib.hid (fun W (hb : Below w1.heap.size w1 W) => (tepoch14_any G.peer W (rp1.below hb) hl).mono (fun _ _ h => PtP.since hb h))
  have SB : Hid (∀ W, Row W w.heap.size 29 [.pointer (some ⟨g, 0, none⟩)] → GAt W g (in16 G) vf vo vl → W.cell? ⟨w.heap.size, 0, none⟩ = some (.pointer (some ⟨g, 0, none⟩)) ∧ W.cell? ⟨g, 2, none⟩ = some (.int .i64 G.peer)) := Lib.hid (fun W q0 q1 => ?sb)
  case sb =>
    have d0 := q0.cell 0
    have d2 := q1.row.cell 2
    simp only [gvC, in16, List.getElem?_cons_zero, List.getElem?_cons_succ] at d2
    exact ⟨d0, d2⟩
  have SN : Hid (∀ W, Below w1.heap.size w1 W → W.cell? ⟨w.heap.size, 0, none⟩ = some (.pointer (some ⟨g, 0, none⟩)) ∧ W.cell? ⟨g, 2, none⟩ = some (.int .i64 G.peer)) := Lib.hid (fun W hb => SB.out W (E0.out.below hb) (E1.out.below hb))
  have SO : Hid (∀ W, Only (own14 t p a k v) w1 W → W.cell? ⟨w.heap.size, 0, none⟩ = some (.pointer (some ⟨g, 0, none⟩)) ∧ W.cell? ⟨g, 2, none⟩ = some (.int .i64 G.peer)) := Lib.hid (fun W ho => SB.out W (E0.out.only ho (fun e => by have := HLT.out _ (.inl e); omega)) (E1.out.only ho (fun x hx hy => HD.out x hx hy)))
  unfold tface14
  go_enter_defers Tryd.func41, Tryd.ntmps41
  go_wp2_with fail
  rw [← hw1]
  clear hw1
  have hS0 := SN.out w1.drew (Below.refl _ _).drew
  have hbd : Below w1.heap.size w1 w1.drew := (Below.refl _ _).drew
  generalize hQ : w.heap.size = Q at *
  go_region_held3 (fun W => W.cell? ⟨Q, 0, none⟩ = some (.pointer (some ⟨g, 0, none⟩)) ∧ W.cell? ⟨g, 2, none⟩ = some (.int .i64 G.peer))
    (first | exact hS0 | exact hS2 | go_keep)
    (first
      | (go_at_call 97; refine (KP.out _ (by first | assumption)).mono ?_; rintro e w2 ⟨k2, v2, rfl, r2, o2, hk2, hv2⟩; have hS2 := SO.out _ o2))
  subst hQ
  all_goals
    go_wp2_with fail
    have G2 := Lib.hid (E1.out.only o2 (fun x hx hy => HD.out x hx hy))
    have T2 := Lib.hid (E0.out.only o2 (fun e => by have := HLT.out _ (.inl e); omega))
    have y0 : w2.cell? ⟨w.heap.size, 0, none⟩ = some (.pointer (some ⟨g, 0, none⟩)) := T2.out.cell 0
    have y7 := G2.out.row.cell 7
    have g7 := G2.out.row.soft 7
    simp only [gvC, in16, List.getElem?_cons_zero, List.getElem?_cons_succ] at y7
    refine leaves_cons (f := 62) (args := #[.pointer (some ⟨w.heap.size, 0, none⟩)]) (by simp) (by simp [go_sem]) ?_
    refine (caught16 w2 y0 y7 g7).mono ?_
    rintro e u' w3 ⟨rfl, rfl, rfl⟩
    simp [Leaves, settle, results, Tryd.results41, go_sem]
    exact endT16 HI.out E2.out G2.out r2 o2 HGD.out hgl (hk2.imp id (fun ⟨x, h1, h2⟩ => ⟨x, h1, by omega⟩)) (hv2.imp id (fun ⟨x, h1, h2⟩ => ⟨x, h1, by omega⟩))
set_option maxRecDepth 100000 in
set_option maxHeartbeats 4000000 in
theorem accT_s15 (w : World) (r : GAt w g G vf vo vl) (h : Acc16 G) (rp : PtAt w t p a b k v V E K T) (hT : TabAt w) (hdis : ∀ x, own16 g vf vo vl x → ¬ (own14 t p a k v x ∨ x = b)) (hl : T.length ≤ 65536) (hst : G.st = 15) :
    Calls Tryd.prog 41 #[.pointer (some ⟨g, 0, none⟩), tface14 t] w (AccT g G vf vo vl t p a b k v V E K (T ++ [(4, G.peer, nth14 E G.peer)]) (nth14 E G.peer) w) := by
  have hmf : ∀ (fn : Fn) (first cap : Array Value) (w : World), (Instr.makeFunc fn first cap).run Tryd.prog w = .ok (.func fn first cap) w := fun _ _ _ _ => rfl
  have f7 := r.row.soft 7
  have c7 := r.row.cell 7
  have c6 := r.row.cell 6
  simp only [gvC, List.getElem?_cons_zero, List.getElem?_cons_succ] at c6 c7
  rw [h.ins] at c7
  rw [hst] at c6
  have hgl := r.row.lt
  have HLT := Lib.hid rp.lt
  have HI := Lib.hid h.ins
  obtain ⟨e0, e1, e2⟩ := enter16 w r
  obtain ⟨w1, hw1⟩ : ∃ w1, w1 = (w.setCell ⟨g, 7, none⟩ (.bool true)).alloc (.cells #[.pointer (some ⟨g, 0, none⟩)] 29) := ⟨_, rfl⟩
  rw [← hw1] at e0 e1 e2
  have hsz := e2.size
  have hgd : ∀ x, own14 t p a k v x ∨ x = b → x ≠ g := fun x hx e => hdis g (.inl rfl) (by rw [← e]; exact hx)
  have rp1 := rp.only e2 (fun x hx e => hgd x hx e)
  have hT1 : TabAt w1 := hT.only e2 (fun e => tab_ne hT r e)
  have z0 : w1.cell? ⟨w.heap.size, 0, none⟩ = some (.pointer (some ⟨g, 0, none⟩)) := e0.cell 0
  have c2 := e1.row.cell 2
  simp only [gvC, in16, List.getElem?_cons_zero, List.getElem?_cons_succ] at c2
  have E0 := Lib.hid e0
  have E1 := Lib.hid e1
  have E2 := Lib.hid e2
  have HGD := Lib.hid hgd
  have HD := Lib.hid (fun x (hx : own16 g vf vo vl x) (hy : own14 t p a k v x) => hdis x hx (.inl hy))
  clear r h rp hT hdis e0 e1 e2 hgd hst
  have KP := Lib.hid (fun W (hb : Below w1.heap.size w1 W) => (tepoch14_any G.peer W (rp1.below hb) hl).mono (fun _ _ h => PtP.since hb h))
  have SB : Hid (∀ W, Row W w.heap.size 29 [.pointer (some ⟨g, 0, none⟩)] → GAt W g (in16 G) vf vo vl → W.cell? ⟨w.heap.size, 0, none⟩ = some (.pointer (some ⟨g, 0, none⟩)) ∧ W.cell? ⟨g, 2, none⟩ = some (.int .i64 G.peer)) := Lib.hid (fun W q0 q1 => ?sb)
  case sb =>
    have d0 := q0.cell 0
    have d2 := q1.row.cell 2
    simp only [gvC, in16, List.getElem?_cons_zero, List.getElem?_cons_succ] at d2
    exact ⟨d0, d2⟩
  have SN : Hid (∀ W, Below w1.heap.size w1 W → W.cell? ⟨w.heap.size, 0, none⟩ = some (.pointer (some ⟨g, 0, none⟩)) ∧ W.cell? ⟨g, 2, none⟩ = some (.int .i64 G.peer)) := Lib.hid (fun W hb => SB.out W (E0.out.below hb) (E1.out.below hb))
  have SO : Hid (∀ W, Only (own14 t p a k v) w1 W → W.cell? ⟨w.heap.size, 0, none⟩ = some (.pointer (some ⟨g, 0, none⟩)) ∧ W.cell? ⟨g, 2, none⟩ = some (.int .i64 G.peer)) := Lib.hid (fun W ho => SB.out W (E0.out.only ho (fun e => by have := HLT.out _ (.inl e); omega)) (E1.out.only ho (fun x hx hy => HD.out x hx hy)))
  unfold tface14
  go_enter_defers Tryd.func41, Tryd.ntmps41
  go_wp2_with fail
  rw [← hw1]
  clear hw1
  have hS0 := SN.out w1.drew (Below.refl _ _).drew
  have hbd : Below w1.heap.size w1 w1.drew := (Below.refl _ _).drew
  generalize hQ : w.heap.size = Q at *
  go_region_held3 (fun W => W.cell? ⟨Q, 0, none⟩ = some (.pointer (some ⟨g, 0, none⟩)) ∧ W.cell? ⟨g, 2, none⟩ = some (.int .i64 G.peer))
    (first | exact hS0 | exact hS2 | go_keep)
    (first
      | (go_at_call 97; refine (KP.out _ (by first | assumption)).mono ?_; rintro e w2 ⟨k2, v2, rfl, r2, o2, hk2, hv2⟩; have hS2 := SO.out _ o2))
  subst hQ
  all_goals
    go_wp2_with fail
    have G2 := Lib.hid (E1.out.only o2 (fun x hx hy => HD.out x hx hy))
    have T2 := Lib.hid (E0.out.only o2 (fun e => by have := HLT.out _ (.inl e); omega))
    have y0 : w2.cell? ⟨w.heap.size, 0, none⟩ = some (.pointer (some ⟨g, 0, none⟩)) := T2.out.cell 0
    have y7 := G2.out.row.cell 7
    have g7 := G2.out.row.soft 7
    simp only [gvC, in16, List.getElem?_cons_zero, List.getElem?_cons_succ] at y7
    refine leaves_cons (f := 62) (args := #[.pointer (some ⟨w.heap.size, 0, none⟩)]) (by simp) (by simp [go_sem]) ?_
    refine (caught16 w2 y0 y7 g7).mono ?_
    rintro e u' w3 ⟨rfl, rfl, rfl⟩
    simp [Leaves, settle, results, Tryd.results41, go_sem]
    exact endT16 HI.out E2.out G2.out r2 o2 HGD.out hgl (hk2.imp id (fun ⟨x, h1, h2⟩ => ⟨x, h1, by omega⟩)) (hv2.imp id (fun ⟨x, h1, h2⟩ => ⟨x, h1, by omega⟩))
set_option maxRecDepth 100000 in
set_option maxHeartbeats 4000000 in
theorem accT_s14 (w : World) (r : GAt w g G vf vo vl) (h : Acc16 G) (rp : PtAt w t p a b k v V E K T) (hT : TabAt w) (hdis : ∀ x, own16 g vf vo vl x → ¬ (own14 t p a k v x ∨ x = b)) (hl : T.length ≤ 65536) (hkl : K.length ≤ 65536) (hst : G.st = 14) :
    Calls Tryd.prog 41 #[.pointer (some ⟨g, 0, none⟩), tface14 t] w (AccT g G vf vo vl t p a b k v V E (K ++ [G.peer]) (T ++ [(5, G.peer, 0)]) 0 w) := by
  have hmf : ∀ (fn : Fn) (first cap : Array Value) (w : World), (Instr.makeFunc fn first cap).run Tryd.prog w = .ok (.func fn first cap) w := fun _ _ _ _ => rfl
  have f7 := r.row.soft 7
  have c7 := r.row.cell 7
  have c6 := r.row.cell 6
  simp only [gvC, List.getElem?_cons_zero, List.getElem?_cons_succ] at c6 c7
  rw [h.ins] at c7
  rw [hst] at c6
  have hgl := r.row.lt
  have HLT := Lib.hid rp.lt
  have HI := Lib.hid h.ins
  obtain ⟨e0, e1, e2⟩ := enter16 w r
  obtain ⟨w1, hw1⟩ : ∃ w1, w1 = (w.setCell ⟨g, 7, none⟩ (.bool true)).alloc (.cells #[.pointer (some ⟨g, 0, none⟩)] 29) := ⟨_, rfl⟩
  rw [← hw1] at e0 e1 e2
  have hsz := e2.size
  have hgd : ∀ x, own14 t p a k v x ∨ x = b → x ≠ g := fun x hx e => hdis g (.inl rfl) (by rw [← e]; exact hx)
  have rp1 := rp.only e2 (fun x hx e => hgd x hx e)
  have hT1 : TabAt w1 := hT.only e2 (fun e => tab_ne hT r e)
  have z0 : w1.cell? ⟨w.heap.size, 0, none⟩ = some (.pointer (some ⟨g, 0, none⟩)) := e0.cell 0
  have c2 := e1.row.cell 2
  simp only [gvC, in16, List.getElem?_cons_zero, List.getElem?_cons_succ] at c2
  have E0 := Lib.hid e0
  have E1 := Lib.hid e1
  have E2 := Lib.hid e2
  have HGD := Lib.hid hgd
  have HD := Lib.hid (fun x (hx : own16 g vf vo vl x) (hy : own14 t p a k v x) => hdis x hx (.inl hy))
  clear r h rp hT hdis e0 e1 e2 hgd hst
  have KP := Lib.hid (fun W (hb : Below w1.heap.size w1 W) => (tkick14_any G.peer W (rp1.below hb) hl hkl).mono (fun _ _ h => PtP.since hb h))
  have SB : Hid (∀ W, Row W w.heap.size 29 [.pointer (some ⟨g, 0, none⟩)] → GAt W g (in16 G) vf vo vl → W.cell? ⟨w.heap.size, 0, none⟩ = some (.pointer (some ⟨g, 0, none⟩)) ∧ W.cell? ⟨g, 2, none⟩ = some (.int .i64 G.peer)) := Lib.hid (fun W q0 q1 => ?sb)
  case sb =>
    have d0 := q0.cell 0
    have d2 := q1.row.cell 2
    simp only [gvC, in16, List.getElem?_cons_zero, List.getElem?_cons_succ] at d2
    exact ⟨d0, d2⟩
  have SN : Hid (∀ W, Below w1.heap.size w1 W → W.cell? ⟨w.heap.size, 0, none⟩ = some (.pointer (some ⟨g, 0, none⟩)) ∧ W.cell? ⟨g, 2, none⟩ = some (.int .i64 G.peer)) := Lib.hid (fun W hb => SB.out W (E0.out.below hb) (E1.out.below hb))
  have SO : Hid (∀ W, Only (own14 t p a k v) w1 W → W.cell? ⟨w.heap.size, 0, none⟩ = some (.pointer (some ⟨g, 0, none⟩)) ∧ W.cell? ⟨g, 2, none⟩ = some (.int .i64 G.peer)) := Lib.hid (fun W ho => SB.out W (E0.out.only ho (fun e => by have := HLT.out _ (.inl e); omega)) (E1.out.only ho (fun x hx hy => HD.out x hx hy)))
  unfold tface14
  go_enter_defers Tryd.func41, Tryd.ntmps41
  go_wp2_with fail
  rw [← hw1]
  clear hw1
  have hS0 := SN.out w1.drew (Below.refl _ _).drew
  have hbd : Below w1.heap.size w1 w1.drew := (Below.refl _ _).drew
  generalize hQ : w.heap.size = Q at *
  go_region_held3 (fun W => W.cell? ⟨Q, 0, none⟩ = some (.pointer (some ⟨g, 0, none⟩)) ∧ W.cell? ⟨g, 2, none⟩ = some (.int .i64 G.peer))
    (first | exact hS0 | exact hS2 | go_keep)
    (first
      | (go_at_call 99; refine (KP.out _ (by first | assumption)).mono ?_; rintro e w2 ⟨k2, v2, rfl, r2, o2, hk2, hv2⟩; have hS2 := SO.out _ o2))
  subst hQ
  all_goals
    go_wp2_with fail
    have G2 := Lib.hid (E1.out.only o2 (fun x hx hy => HD.out x hx hy))
    have T2 := Lib.hid (E0.out.only o2 (fun e => by have := HLT.out _ (.inl e); omega))
    have y0 : w2.cell? ⟨w.heap.size, 0, none⟩ = some (.pointer (some ⟨g, 0, none⟩)) := T2.out.cell 0
    have y7 := G2.out.row.cell 7
    have g7 := G2.out.row.soft 7
    simp only [gvC, in16, List.getElem?_cons_zero, List.getElem?_cons_succ] at y7
    refine leaves_cons (f := 62) (args := #[.pointer (some ⟨w.heap.size, 0, none⟩)]) (by simp) (by simp [go_sem]) ?_
    refine (caught16 w2 y0 y7 g7).mono ?_
    rintro e u' w3 ⟨rfl, rfl, rfl⟩
    simp [Leaves, settle, results, Tryd.results41, go_sem]
    exact endT16 HI.out E2.out G2.out r2 o2 HGD.out hgl (hk2.imp id (fun ⟨x, h1, h2⟩ => ⟨x, h1, by omega⟩)) (hv2.imp id (fun ⟨x, h1, h2⟩ => ⟨x, h1, by omega⟩))
set_option maxRecDepth 100000 in
set_option maxHeartbeats 4000000 in
theorem accT_s2 (w : World) (r : GAt w g G vf vo vl) (h : Acc16 G) (rp : PtAt w t p a b k v V E K T) (hT : TabAt w) (hdis : ∀ x, own16 g vf vo vl x → ¬ (own14 t p a k v x ∨ x = b)) (hl : T.length ≤ 65536) (hst : G.st = 2) :
    Calls Tryd.prog 41 #[.pointer (some ⟨g, 0, none⟩), tface14 t] w (AccT g G vf vo vl t p a b k v (put14 V (ad16 G 3 0 0) ((0) % 65536)) E K (T ++ [(2, ad16 G 3 0 0, 0)]) 0 w) := by
  have hmf : ∀ (fn : Fn) (first cap : Array Value) (w : World), (Instr.makeFunc fn first cap).run Tryd.prog w = .ok (.func fn first cap) w := fun _ _ _ _ => rfl
  obtain ⟨A, hA⟩ : ∃ A, ad16 G 3 0 0 = A := ⟨_, rfl⟩
  rw [hA]
  have f7 := r.row.soft 7
  have c7 := r.row.cell 7
  have c6 := r.row.cell 6
  simp only [gvC, List.getElem?_cons_zero, List.getElem?_cons_succ] at c6 c7
  rw [h.ins] at c7
  rw [hst] at c6
  have hgl := r.row.lt
  have HLT := Lib.hid rp.lt
  have HI := Lib.hid h.ins
  obtain ⟨e0, e1, e2⟩ := enter16 w r
  obtain ⟨w1, hw1⟩ : ∃ w1, w1 = (w.setCell ⟨g, 7, none⟩ (.bool true)).alloc (.cells #[.pointer (some ⟨g, 0, none⟩)] 29) := ⟨_, rfl⟩
  rw [← hw1] at e0 e1 e2
  have hsz := e2.size
  have hgd : ∀ x, own14 t p a k v x ∨ x = b → x ≠ g := fun x hx e => hdis g (.inl rfl) (by rw [← e]; exact hx)
  have rp1 := rp.only e2 (fun x hx e => hgd x hx e)
  have hT1 : TabAt w1 := hT.only e2 (fun e => tab_ne hT r e)
  have z0 : w1.cell? ⟨w.heap.size, 0, none⟩ = some (.pointer (some ⟨g, 0, none⟩)) := e0.cell 0
  have K5 := Lib.hid (fun W (hb : Below w1.heap.size w1 W) => (at16_any (G := in16 G) 3 0 0 W (e1.below hb) h.B h.R.2 (hT1.below hb)).mono (R' := fun e w' => e = .returned (.int .i64 A) ∧ Below w1.heap.size w1 w') (fun _ _ ⟨he, hb'⟩ => ⟨by rw [he, ← hA]; rfl, below_on hb hb'⟩))
  have E0 := Lib.hid e0
  have E1 := Lib.hid e1
  have E2 := Lib.hid e2
  have HGD := Lib.hid hgd
  have HD := Lib.hid (fun x (hx : own16 g vf vo vl x) (hy : own14 t p a k v x) => hdis x hx (.inl hy))
  clear r h rp hT hdis e0 e1 e2 hgd hst
  have KP := Lib.hid (fun W (hb : Below w1.heap.size w1 W) => (tstore14_any A 0 W (rp1.below hb) hl).mono (fun _ _ h => PtP.since hb h))
  have SB : Hid (∀ W, Row W w.heap.size 29 [.pointer (some ⟨g, 0, none⟩)] → GAt W g (in16 G) vf vo vl → W.cell? ⟨w.heap.size, 0, none⟩ = some (.pointer (some ⟨g, 0, none⟩))) := Lib.hid (fun W q0 q1 => ?sb)
  case sb =>
    have d0 := q0.cell 0
    exact d0
  have SN : Hid (∀ W, Below w1.heap.size w1 W → W.cell? ⟨w.heap.size, 0, none⟩ = some (.pointer (some ⟨g, 0, none⟩))) := Lib.hid (fun W hb => SB.out W (E0.out.below hb) (E1.out.below hb))
  have SO : Hid (∀ W, Only (own14 t p a k v) w1 W → W.cell? ⟨w.heap.size, 0, none⟩ = some (.pointer (some ⟨g, 0, none⟩))) := Lib.hid (fun W ho => SB.out W (E0.out.only ho (fun e => by have := HLT.out _ (.inl e); omega)) (E1.out.only ho (fun x hx hy => HD.out x hx hy)))
  unfold tface14
  go_enter_defers Tryd.func41, Tryd.ntmps41
  go_wp2_with fail
  rw [← hw1]
  clear hw1
  have hS0 := SN.out w1.drew (Below.refl _ _).drew
  have hbd : Below w1.heap.size w1 w1.drew := (Below.refl _ _).drew
  generalize hQ : w.heap.size = Q at *
  go_region_held3 (fun W => W.cell? ⟨Q, 0, none⟩ = some (.pointer (some ⟨g, 0, none⟩)))
    (first | exact hS0 | exact hS2 | exact hS5 | go_keep)
    (first
      | (go_at_call 101; refine (KP.out _ (by first | assumption)).mono ?_; rintro e w2 ⟨k2, v2, rfl, r2, o2, hk2, hv2⟩; have hS2 := SO.out _ o2)
      | (go_at_call 63; refine (K5.out _ (by first | assumption)).mono ?_; rintro e w5 ⟨rfl, hb5⟩; have hS5 := SN.out _ hb5))
  subst hQ
  all_goals
    go_wp2_with fail
    have G2 := Lib.hid (E1.out.only o2 (fun x hx hy => HD.out x hx hy))
    have T2 := Lib.hid (E0.out.only o2 (fun e => by have := HLT.out _ (.inl e); omega))
    have y0 : w2.cell? ⟨w.heap.size, 0, none⟩ = some (.pointer (some ⟨g, 0, none⟩)) := T2.out.cell 0
    have y7 := G2.out.row.cell 7
    have g7 := G2.out.row.soft 7
    simp only [gvC, in16, List.getElem?_cons_zero, List.getElem?_cons_succ] at y7
    refine leaves_cons (f := 62) (args := #[.pointer (some ⟨w.heap.size, 0, none⟩)]) (by simp) (by simp [go_sem]) ?_
    refine (caught16 w2 y0 y7 g7).mono ?_
    rintro e u' w3 ⟨rfl, rfl, rfl⟩
    simp [Leaves, settle, results, Tryd.results41, go_sem]
    exact endT16 HI.out E2.out G2.out r2 o2 HGD.out hgl (hk2.imp id (fun ⟨x, h1, h2⟩ => ⟨x, h1, by omega⟩)) (hv2.imp id (fun ⟨x, h1, h2⟩ => ⟨x, h1, by omega⟩))
set_option maxRecDepth 100000 in
set_option maxHeartbeats 4000000 in
theorem accT_s3 (w : World) (r : GAt w g G vf vo vl) (h : Acc16 G) (rp : PtAt w t p a b k v V E K T) (hT : TabAt w) (hdis : ∀ x, own16 g vf vo vl x → ¬ (own14 t p a k v x ∨ x = b)) (hl : T.length ≤ 65536) (hst : G.st = 3) :
    Calls Tryd.prog 41 #[.pointer (some ⟨g, 0, none⟩), tface14 t] w (AccT g G vf vo vl t p a b k v (put14 V (ad16 G 1 0 0) ((ep16 G) % 65536)) E K (T ++ [(2, ad16 G 1 0 0, ep16 G)]) 0 w) := by
  have hmf : ∀ (fn : Fn) (first cap : Array Value) (w : World), (Instr.makeFunc fn first cap).run Tryd.prog w = .ok (.func fn first cap) w := fun _ _ _ _ => rfl
  obtain ⟨U, hU⟩ : ∃ A, ep16 G = A := ⟨_, rfl⟩
  rw [hU]
  obtain ⟨A, hA⟩ : ∃ A, ad16 G 1 0 0 = A := ⟨_, rfl⟩
  rw [hA]
  have f7 := r.row.soft 7
  have c7 := r.row.cell 7
  have c6 := r.row.cell 6
  simp only [gvC, List.getElem?_cons_zero, List.getElem?_cons_succ] at c6 c7
  rw [h.ins] at c7
  rw [hst] at c6
  have hgl := r.row.lt
  have HLT := Lib.hid rp.lt
  have HI := Lib.hid h.ins
  obtain ⟨e0, e1, e2⟩ := enter16 w r
  obtain ⟨w1, hw1⟩ : ∃ w1, w1 = (w.setCell ⟨g, 7, none⟩ (.bool true)).alloc (.cells #[.pointer (some ⟨g, 0, none⟩)] 29) := ⟨_, rfl⟩
  rw [← hw1] at e0 e1 e2
  have hsz := e2.size
  have hgd : ∀ x, own14 t p a k v x ∨ x = b → x ≠ g := fun x hx e => hdis g (.inl rfl) (by rw [← e]; exact hx)
  have rp1 := rp.only e2 (fun x hx e => hgd x hx e)
  have hT1 : TabAt w1 := hT.only e2 (fun e => tab_ne hT r e)
  have z0 : w1.cell? ⟨w.heap.size, 0, none⟩ = some (.pointer (some ⟨g, 0, none⟩)) := e0.cell 0
  have K5 := Lib.hid (fun W (hb : Below w1.heap.size w1 W) => (at16_any (G := in16 G) 1 0 0 W (e1.below hb) h.B h.R.2 (hT1.below hb)).mono (R' := fun e w' => e = .returned (.int .i64 A) ∧ Below w1.heap.size w1 w') (fun _ _ ⟨he, hb'⟩ => ⟨by rw [he, ← hA]; rfl, below_on hb hb'⟩))
  have K6 := Lib.hid (fun W (hb : Below w1.heap.size w1 W) => (epoch16_any (G := in16 G) W (e1.below hb)).mono (R' := fun e w' => e = .returned (.int .i64 U) ∧ Below w1.heap.size w1 w') (fun _ _ ⟨he, hb'⟩ => ⟨by rw [he, ← hU]; rfl, below_on hb hb'⟩))
  have E0 := Lib.hid e0
  have E1 := Lib.hid e1
  have E2 := Lib.hid e2
  have HGD := Lib.hid hgd
  have HD := Lib.hid (fun x (hx : own16 g vf vo vl x) (hy : own14 t p a k v x) => hdis x hx (.inl hy))
  clear r h rp hT hdis e0 e1 e2 hgd hst
  have KP := Lib.hid (fun W (hb : Below w1.heap.size w1 W) => (tstore14_any A U W (rp1.below hb) hl).mono (fun _ _ h => PtP.since hb h))
  have SB : Hid (∀ W, Row W w.heap.size 29 [.pointer (some ⟨g, 0, none⟩)] → GAt W g (in16 G) vf vo vl → W.cell? ⟨w.heap.size, 0, none⟩ = some (.pointer (some ⟨g, 0, none⟩))) := Lib.hid (fun W q0 q1 => ?sb)
  case sb =>
    have d0 := q0.cell 0
    exact d0
  have SN : Hid (∀ W, Below w1.heap.size w1 W → W.cell? ⟨w.heap.size, 0, none⟩ = some (.pointer (some ⟨g, 0, none⟩))) := Lib.hid (fun W hb => SB.out W (E0.out.below hb) (E1.out.below hb))
  have SO : Hid (∀ W, Only (own14 t p a k v) w1 W → W.cell? ⟨w.heap.size, 0, none⟩ = some (.pointer (some ⟨g, 0, none⟩))) := Lib.hid (fun W ho => SB.out W (E0.out.only ho (fun e => by have := HLT.out _ (.inl e); omega)) (E1.out.only ho (fun x hx hy => HD.out x hx hy)))
  unfold tface14
  go_enter_defers Tryd.func41, Tryd.ntmps41
  go_wp2_with fail
  rw [← hw1]
  clear hw1
  have hS0 := SN.out w1.drew (Below.refl _ _).drew
  have hbd : Below w1.heap.size w1 w1.drew := (Below.refl _ _).drew
  generalize hQ : w.heap.size = Q at *
  go_region_held3 (fun W => W.cell? ⟨Q, 0, none⟩ = some (.pointer (some ⟨g, 0, none⟩)))
    (first | exact hS0 | exact hS2 | exact hS5 | exact hS6 | go_keep)
    (first
      | (go_at_call 101; refine (KP.out _ (by first | assumption)).mono ?_; rintro e w2 ⟨k2, v2, rfl, r2, o2, hk2, hv2⟩; have hS2 := SO.out _ o2)
      | (go_at_call 63; refine (K5.out _ (by first | assumption)).mono ?_; rintro e w5 ⟨rfl, hb5⟩; have hS5 := SN.out _ hb5)
      | (go_at_call 57; refine (K6.out _ (by first | assumption)).mono ?_; rintro e w6 ⟨rfl, hb6⟩; have hS6 := SN.out _ hb6))
  subst hQ
  all_goals
    go_wp2_with fail
    have G2 := Lib.hid (E1.out.only o2 (fun x hx hy => HD.out x hx hy))
    have T2 := Lib.hid (E0.out.only o2 (fun e => by have := HLT.out _ (.inl e); omega))
    have y0 : w2.cell? ⟨w.heap.size, 0, none⟩ = some (.pointer (some ⟨g, 0, none⟩)) := T2.out.cell 0
    have y7 := G2.out.row.cell 7
    have g7 := G2.out.row.soft 7
    simp only [gvC, in16, List.getElem?_cons_zero, List.getElem?_cons_succ] at y7
    refine leaves_cons (f := 62) (args := #[.pointer (some ⟨w.heap.size, 0, none⟩)]) (by simp) (by simp [go_sem]) ?_
    refine (caught16 w2 y0 y7 g7).mono ?_
    rintro e u' w3 ⟨rfl, rfl, rfl⟩
    simp [Leaves, settle, results, Tryd.results41, go_sem]
    exact endT16 HI.out E2.out G2.out r2 o2 HGD.out hgl (hk2.imp id (fun ⟨x, h1, h2⟩ => ⟨x, h1, by omega⟩)) (hv2.imp id (fun ⟨x, h1, h2⟩ => ⟨x, h1, by omega⟩))
set_option maxRecDepth 100000 in
set_option maxHeartbeats 4000000 in
theorem accT_s5 (w : World) (r : GAt w g G vf vo vl) (h : Acc16 G) (rp : PtAt w t p a b k v V E K T) (hT : TabAt w) (hdis : ∀ x, own16 g vf vo vl x → ¬ (own14 t p a k v x ∨ x = b)) (hl : T.length ≤ 65536) (hst : G.st = 5) :
    Calls Tryd.prog 41 #[.pointer (some ⟨g, 0, none⟩), tface14 t] w (AccT g G vf vo vl t p a b k v V E K (T ++ [(1, ad16 G 2 0 0, nth14 V (ad16 G 2 0 0))]) (nth14 V (ad16 G 2 0 0)) w) := by
  have hmf : ∀ (fn : Fn) (first cap : Array Value) (w : World), (Instr.makeFunc fn first cap).run Tryd.prog w = .ok (.func fn first cap) w := fun _ _ _ _ => rfl
  obtain ⟨A, hA⟩ : ∃ A, ad16 G 2 0 0 = A := ⟨_, rfl⟩
  rw [hA]
  have f7 := r.row.soft 7
  have c7 := r.row.cell 7
  have c6 := r.row.cell 6
  simp only [gvC, List.getElem?_cons_zero, List.getElem?_cons_succ] at c6 c7
  rw [h.ins] at c7
  rw [hst] at c6
  have hgl := r.row.lt
  have HLT := Lib.hid rp.lt
  have HI := Lib.hid h.ins
  obtain ⟨e0, e1, e2⟩ := enter16 w r
  obtain ⟨w1, hw1⟩ : ∃ w1, w1 = (w.setCell ⟨g, 7, none⟩ (.bool true)).alloc (.cells #[.pointer (some ⟨g, 0, none⟩)] 29) := ⟨_, rfl⟩
  rw [← hw1] at e0 e1 e2
  have hsz := e2.size
  have hgd : ∀ x, own14 t p a k v x ∨ x = b → x ≠ g := fun x hx e => hdis g (.inl rfl) (by rw [← e]; exact hx)
  have rp1 := rp.only e2 (fun x hx e => hgd x hx e)
  have hT1 : TabAt w1 := hT.only e2 (fun e => tab_ne hT r e)
  have z0 : w1.cell? ⟨w.heap.size, 0, none⟩ = some (.pointer (some ⟨g, 0, none⟩)) := e0.cell 0
  have K5 := Lib.hid (fun W (hb : Below w1.heap.size w1 W) => (at16_any (G := in16 G) 2 0 0 W (e1.below hb) h.B h.R.2 (hT1.below hb)).mono (R' := fun e w' => e = .returned (.int .i64 A) ∧ Below w1.heap.size w1 w') (fun _ _ ⟨he, hb'⟩ => ⟨by rw [he, ← hA]; rfl, below_on hb hb'⟩))
  have E0 := Lib.hid e0
  have E1 := Lib.hid e1
  have E2 := Lib.hid e2
  have HGD := Lib.hid hgd
  have HD := Lib.hid (fun x (hx : own16 g vf vo vl x) (hy : own14 t p a k v x) => hdis x hx (.inl hy))
  clear r h rp hT hdis e0 e1 e2 hgd hst
  have KP := Lib.hid (fun W (hb : Below w1.heap.size w1 W) => (tload14_any A W (rp1.below hb) hl).mono (fun _ _ h => PtP.since hb h))
  have SB : Hid (∀ W, Row W w.heap.size 29 [.pointer (some ⟨g, 0, none⟩)] → GAt W g (in16 G) vf vo vl → W.cell? ⟨w.heap.size, 0, none⟩ = some (.pointer (some ⟨g, 0, none⟩))) := Lib.hid (fun W q0 q1 => ?sb)
  case sb =>
    have d0 := q0.cell 0
    exact d0
  have SN : Hid (∀ W, Below w1.heap.size w1 W → W.cell? ⟨w.heap.size, 0, none⟩ = some (.pointer (some ⟨g, 0, none⟩))) := Lib.hid (fun W hb => SB.out W (E0.out.below hb) (E1.out.below hb))
  have SO : Hid (∀ W, Only (own14 t p a k v) w1 W → W.cell? ⟨w.heap.size, 0, none⟩ = some (.pointer (some ⟨g, 0, none⟩))) := Lib.hid (fun W ho => SB.out W (E0.out.only ho (fun e => by have := HLT.out _ (.inl e); omega)) (E1.out.only ho (fun x hx hy => HD.out x hx hy)))
  unfold tface14
  go_enter_defers Tryd.func41, Tryd.ntmps41
  go_wp2_with fail
  rw [← hw1]
  clear hw1
  have hS0 := SN.out w1.drew (Below.refl _ _).drew
  have hbd : Below w1.heap.size w1 w1.drew := (Below.refl _ _).drew
  generalize hQ : w.heap.size = Q at *
  go_region_held3 (fun W => W.cell? ⟨Q, 0, none⟩ = some (.pointer (some ⟨g, 0, none⟩)))
    (first | exact hS0 | exact hS2 | exact hS5 | go_keep)
    (first
      | (go_at_call 100; refine (KP.out _ (by first | assumption)).mono ?_; rintro e w2 ⟨k2, v2, rfl, r2, o2, hk2, hv2⟩; have hS2 := SO.out _ o2)
      | (go_at_call 63; refine (K5.out _ (by first | assumption)).mono ?_; rintro e w5 ⟨rfl, hb5⟩; have hS5 := SN.out _ hb5))
  subst hQ
  all_goals
    go_wp2_with fail
    have G2 := Lib.hid (E1.out.only o2 (fun x hx hy => HD.out x hx hy))
    have T2 := Lib.hid (E0.out.only o2 (fun e => by have := HLT.out _ (.inl e); omega))
    have y0 : w2.cell? ⟨w.heap.size, 0, none⟩ = some (.pointer (some ⟨g, 0, none⟩)) := T2.out.cell 0
    have y7 := G2.out.row.cell 7
    have g7 := G2.out.row.soft 7
    simp only [gvC, in16, List.getElem?_cons_zero, List.getElem?_cons_succ] at y7
    refine leaves_cons (f := 62) (args := #[.pointer (some ⟨w.heap.size, 0, none⟩)]) (by simp) (by simp [go_sem]) ?_
    refine (caught16 w2 y0 y7 g7).mono ?_
    rintro e u' w3 ⟨rfl, rfl, rfl⟩
    simp [Leaves, settle, results, Tryd.results41, go_sem]
    exact endT16 HI.out E2.out G2.out r2 o2 HGD.out hgl (hk2.imp id (fun ⟨x, h1, h2⟩ => ⟨x, h1, by omega⟩)) (hv2.imp id (fun ⟨x, h1, h2⟩ => ⟨x, h1, by omega⟩))
set_option maxRecDepth 100000 in
set_option maxHeartbeats 4000000 in
theorem accT_s6 (w : World) (r : GAt w g G vf vo vl) (h : Acc16 G) (rp : PtAt w t p a b k v V E K T) (hT : TabAt w) (hdis : ∀ x, own16 g vf vo vl x → ¬ (own14 t p a k v x ∨ x = b)) (hl : T.length ≤ 65536) (hst : G.st = 6) :
    Calls Tryd.prog 41 #[.pointer (some ⟨g, 0, none⟩), tface14 t] w (AccT g G vf vo vl t p a b k v V E K (T ++ [(1, ad16 G 4 0 0, nth14 V (ad16 G 4 0 0))]) (nth14 V (ad16 G 4 0 0)) w) := by
  have hmf : ∀ (fn : Fn) (first cap : Array Value) (w : World), (Instr.makeFunc fn first cap).run Tryd.prog w = .ok (.func fn first cap) w := fun _ _ _ _ => rfl
  obtain ⟨A, hA⟩ : ∃ A, ad16 G 4 0 0 = A := ⟨_, rfl⟩
  rw [hA]
  have f7 := r.row.soft 7
  have c7 := r.row.cell 7
  have c6 := r.row.cell 6
  simp only [gvC, List.getElem?_cons_zero, List.getElem?_cons_succ] at c6 c7
  rw [h.ins] at c7
  rw [hst] at c6
  have hgl := r.row.lt
  have HLT := Lib.hid rp.lt
  have HI := Lib.hid h.ins
  obtain ⟨e0, e1, e2⟩ := enter16 w r
  obtain ⟨w1, hw1⟩ : ∃ w1, w1 = (w.setCell ⟨g, 7, none⟩ (.bool true)).alloc (.cells #[.pointer (some ⟨g, 0, none⟩)] 29) := ⟨_, rfl⟩
  rw [← hw1] at e0 e1 e2
  have hsz := e2.size
  have hgd : ∀ x, own14 t p a k v x ∨ x = b → x ≠ g := fun x hx e => hdis g (.inl rfl) (by rw [← e]; exact hx)
  have rp1 := rp.only e2 (fun x hx e => hgd x hx e)
  have hT1 : TabAt w1 := hT.only e2 (fun e => tab_ne hT r e)
  have z0 : w1.cell? ⟨w.heap.size, 0, none⟩ = some (.pointer (some ⟨g, 0, none⟩)) := e0.cell 0
  have K5 := Lib.hid (fun W (hb : Below w1.heap.size w1 W) => (at16_any (G := in16 G) 4 0 0 W (e1.below hb) h.B h.R.2 (hT1.below hb)).mono (R' := fun e w' => e = .returned (.int .i64 A) ∧ Below w1.heap.size w1 w') (fun _ _ ⟨he, hb'⟩ => ⟨by rw [he, ← hA]; rfl, below_on hb hb'⟩))
  have E0 := Lib.hid e0
  have E1 := Lib.hid e1
  have E2 := Lib.hid e2
  have HGD := Lib.hid hgd
  have HD := Lib.hid (fun x (hx : own16 g vf vo vl x) (hy : own14 t p a k v x) => hdis x hx (.inl hy))
  clear r h rp hT hdis e0 e1 e2 hgd hst
  have KP := Lib.hid (fun W (hb : Below w1.heap.size w1 W) => (tload14_any A W (rp1.below hb) hl).mono (fun _ _ h => PtP.since hb h))
  have SB : Hid (∀ W, Row W w.heap.size 29 [.pointer (some ⟨g, 0, none⟩)] → GAt W g (in16 G) vf vo vl → W.cell? ⟨w.heap.size, 0, none⟩ = some (.pointer (some ⟨g, 0, none⟩))) := Lib.hid (fun W q0 q1 => ?sb)
  case sb =>
    have d0 := q0.cell 0
    exact d0
  have SN : Hid (∀ W, Below w1.heap.size w1 W → W.cell? ⟨w.heap.size, 0, none⟩ = some (.pointer (some ⟨g, 0, none⟩))) := Lib.hid (fun W hb => SB.out W (E0.out.below hb) (E1.out.below hb))
  have SO : Hid (∀ W, Only (own14 t p a k v) w1 W → W.cell? ⟨w.heap.size, 0, none⟩ = some (.pointer (some ⟨g, 0, none⟩))) := Lib.hid (fun W ho => SB.out W (E0.out.only ho (fun e => by have := HLT.out _ (.inl e); omega)) (E1.out.only ho (fun x hx hy => HD.out x hx hy)))
  unfold tface14
  go_enter_defers Tryd.func41, Tryd.ntmps41
  go_wp2_with fail
  rw [← hw1]
  clear hw1
  have hS0 := SN.out w1.drew (Below.refl _ _).drew
  have hbd : Below w1.heap.size w1 w1.drew := (Below.refl _ _).drew
  generalize hQ : w.heap.size = Q at *
  go_region_held3 (fun W => W.cell? ⟨Q, 0, none⟩ = some (.pointer (some ⟨g, 0, none⟩)))
    (first | exact hS0 | exact hS2 | exact hS5 | go_keep)
    (first
      | (go_at_call 100; refine (KP.out _ (by first | assumption)).mono ?_; rintro e w2 ⟨k2, v2, rfl, r2, o2, hk2, hv2⟩; have hS2 := SO.out _ o2)
      | (go_at_call 63; refine (K5.out _ (by first | assumption)).mono ?_; rintro e w5 ⟨rfl, hb5⟩; have hS5 := SN.out _ hb5))
  subst hQ
  all_goals
    go_wp2_with fail
    have G2 := Lib.hid (E1.out.only o2 (fun x hx hy => HD.out x hx hy))
    have T2 := Lib.hid (E0.out.only o2 (fun e => by have := HLT.out _ (.inl e); omega))
    have y0 : w2.cell? ⟨w.heap.size, 0, none⟩ = some (.pointer (some ⟨g, 0, none⟩)) := T2.out.cell 0
    have y7 := G2.out.row.cell 7
    have g7 := G2.out.row.soft 7
    simp only [gvC, in16, List.getElem?_cons_zero, List.getElem?_cons_succ] at y7
    refine leaves_cons (f := 62) (args := #[.pointer (some ⟨w.heap.size, 0, none⟩)]) (by simp) (by simp [go_sem]) ?_
    refine (caught16 w2 y0 y7 g7).mono ?_
    rintro e u' w3 ⟨rfl, rfl, rfl⟩
    simp [Leaves, settle, results, Tryd.results41, go_sem]
    exact endT16 HI.out E2.out G2.out r2 o2 HGD.out hgl (hk2.imp id (fun ⟨x, h1, h2⟩ => ⟨x, h1, by omega⟩)) (hv2.imp id (fun ⟨x, h1, h2⟩ => ⟨x, h1, by omega⟩))
set_option maxRecDepth 100000 in
set_option maxHeartbeats 4000000 in
theorem accT_s7 (w : World) (r : GAt w g G vf vo vl) (h : Acc16 G) (rp : PtAt w t p a b k v V E K T) (hT : TabAt w) (hdis : ∀ x, own16 g vf vo vl x → ¬ (own14 t p a k v x ∨ x = b)) (hl : T.length ≤ 65536) (hst : G.st = 7) :
    Calls Tryd.prog 41 #[.pointer (some ⟨g, 0, none⟩), tface14 t] w (AccT g G vf vo vl t p a b k v V E K (T ++ [(1, ad16 G 6 (G.tail % (G.R : Int)) 0, nth14 V (ad16 G 6 (G.tail % (G.R : Int)) 0))]) (nth14 V (ad16 G 6 (G.tail % (G.R : Int)) 0)) w) := by
  have hmf : ∀ (fn : Fn) (first cap : Array Value) (w : World), (Instr.makeFunc fn first cap).run Tryd.prog w = .ok (.func fn first cap) w := fun _ _ _ _ => rfl
  obtain ⟨m, hm⟩ : ∃ m, G.tail % (G.R : Int) = m := ⟨_, rfl⟩
  have hm0 : 0 ≤ m ∧ m < 64 := by
    have h1 := Int.emod_nonneg G.tail (show (G.R : Int) ≠ 0 by have := h.R; omega)
    have h2 := Int.emod_lt_of_pos G.tail (show (0 : Int) < (G.R : Int) by have := h.R; omega)
    have := h.R
    omega
  have hmt : G.tail.tmod (G.R : Int) = m := by rw [Int.tmod_eq_emod_of_nonneg h.tail.1]; exact hm
  have hmw : wrap64 m = m := by rw [← IntWalk.i64_left, IntWalk.i64_in _ (by omega)]
  have hR0 : (G.R : Int) ≠ 0 := by have := h.R; omega
  have hR1 : ¬ G.R = 0 := by have := h.R; omega
  rw [hm]
  obtain ⟨A, hA⟩ : ∃ A, ad16 G 6 m 0 = A := ⟨_, rfl⟩
  rw [hA]
  have f7 := r.row.soft 7
  have c7 := r.row.cell 7
  have c6 := r.row.cell 6
  simp only [gvC, List.getElem?_cons_zero, List.getElem?_cons_succ] at c6 c7
  rw [h.ins] at c7
  rw [hst] at c6
  have hgl := r.row.lt
  have HLT := Lib.hid rp.lt
  have HI := Lib.hid h.ins
  obtain ⟨e0, e1, e2⟩ := enter16 w r
  obtain ⟨w1, hw1⟩ : ∃ w1, w1 = (w.setCell ⟨g, 7, none⟩ (.bool true)).alloc (.cells #[.pointer (some ⟨g, 0, none⟩)] 29) := ⟨_, rfl⟩
  rw [← hw1] at e0 e1 e2
  have hsz := e2.size
  have hgd : ∀ x, own14 t p a k v x ∨ x = b → x ≠ g := fun x hx e => hdis g (.inl rfl) (by rw [← e]; exact hx)
  have rp1 := rp.only e2 (fun x hx e => hgd x hx e)
  have hT1 : TabAt w1 := hT.only e2 (fun e => tab_ne hT r e)
  have z0 : w1.cell? ⟨w.heap.size, 0, none⟩ = some (.pointer (some ⟨g, 0, none⟩)) := e0.cell 0
  have c1 := e1.row.cell 1
  have c12 := e1.row.cell 12
  simp only [gvC, in16, List.getElem?_cons_zero, List.getElem?_cons_succ] at c1 c12
  have K5 := Lib.hid (fun W (hb : Below w1.heap.size w1 W) => (at16_any (G := in16 G) 6 m 0 W (e1.below hb) h.B h.R.2 (hT1.below hb)).mono (R' := fun e w' => e = .returned (.int .i64 A) ∧ Below w1.heap.size w1 w') (fun _ _ ⟨he, hb'⟩ => ⟨by rw [he, ← hA]; rfl, below_on hb hb'⟩))
  have E0 := Lib.hid e0
  have E1 := Lib.hid e1
  have E2 := Lib.hid e2
  have HGD := Lib.hid hgd
  have HD := Lib.hid (fun x (hx : own16 g vf vo vl x) (hy : own14 t p a k v x) => hdis x hx (.inl hy))
  clear r h rp hT hdis e0 e1 e2 hgd hst
  have KP := Lib.hid (fun W (hb : Below w1.heap.size w1 W) => (tload14_any A W (rp1.below hb) hl).mono (fun _ _ h => PtP.since hb h))
  have SB : Hid (∀ W, Row W w.heap.size 29 [.pointer (some ⟨g, 0, none⟩)] → GAt W g (in16 G) vf vo vl → W.cell? ⟨w.heap.size, 0, none⟩ = some (.pointer (some ⟨g, 0, none⟩)) ∧ W.cell? ⟨g, 1, none⟩ = some (.int .i64 (G.R : Int)) ∧ W.cell? ⟨g, 12, none⟩ = some (.int .i64 G.tail)) := Lib.hid (fun W q0 q1 => ?sb)
  case sb =>
    have d0 := q0.cell 0
    have d1 := q1.row.cell 1
    have d12 := q1.row.cell 12
    simp only [gvC, in16, List.getElem?_cons_zero, List.getElem?_cons_succ] at d1 d12
    exact ⟨d0, d1, d12⟩
  have SN : Hid (∀ W, Below w1.heap.size w1 W → W.cell? ⟨w.heap.size, 0, none⟩ = some (.pointer (some ⟨g, 0, none⟩)) ∧ W.cell? ⟨g, 1, none⟩ = some (.int .i64 (G.R : Int)) ∧ W.cell? ⟨g, 12, none⟩ = some (.int .i64 G.tail)) := Lib.hid (fun W hb => SB.out W (E0.out.below hb) (E1.out.below hb))
  have SO : Hid (∀ W, Only (own14 t p a k v) w1 W → W.cell? ⟨w.heap.size, 0, none⟩ = some (.pointer (some ⟨g, 0, none⟩)) ∧ W.cell? ⟨g, 1, none⟩ = some (.int .i64 (G.R : Int)) ∧ W.cell? ⟨g, 12, none⟩ = some (.int .i64 G.tail)) := Lib.hid (fun W ho => SB.out W (E0.out.only ho (fun e => by have := HLT.out _ (.inl e); omega)) (E1.out.only ho (fun x hx hy => HD.out x hx hy)))
  unfold tface14
  go_enter_defers Tryd.func41, Tryd.ntmps41
  go_wp2_with fail
  rw [← hw1]
  clear hw1
  have hS0 := SN.out w1.drew (Below.refl _ _).drew
  have hbd : Below w1.heap.size w1 w1.drew := (Below.refl _ _).drew
  generalize hQ : w.heap.size = Q at *
  go_region_held3 (fun W => W.cell? ⟨Q, 0, none⟩ = some (.pointer (some ⟨g, 0, none⟩)) ∧ W.cell? ⟨g, 1, none⟩ = some (.int .i64 (G.R : Int)) ∧ W.cell? ⟨g, 12, none⟩ = some (.int .i64 G.tail))
    (first | exact hS0 | exact hS2 | exact hS5 | go_keep)
    (first
      | (go_at_call 100; refine (KP.out _ (by first | assumption)).mono ?_; rintro e w2 ⟨k2, v2, rfl, r2, o2, hk2, hv2⟩; have hS2 := SO.out _ o2)
      | (go_at_call 63; refine (K5.out _ (by first | assumption)).mono ?_; rintro e w5 ⟨rfl, hb5⟩; have hS5 := SN.out _ hb5))
  subst hQ
  all_goals
    go_wp2_with fail
    have G2 := Lib.hid (E1.out.only o2 (fun x hx hy => HD.out x hx hy))
    have T2 := Lib.hid (E0.out.only o2 (fun e => by have := HLT.out _ (.inl e); omega))
    have y0 : w2.cell? ⟨w.heap.size, 0, none⟩ = some (.pointer (some ⟨g, 0, none⟩)) := T2.out.cell 0
    have y7 := G2.out.row.cell 7
    have g7 := G2.out.row.soft 7
    simp only [gvC, in16, List.getElem?_cons_zero, List.getElem?_cons_succ] at y7
    refine leaves_cons (f := 62) (args := #[.pointer (some ⟨w.heap.size, 0, none⟩)]) (by simp) (by simp [go_sem]) ?_
    refine (caught16 w2 y0 y7 g7).mono ?_
    rintro e u' w3 ⟨rfl, rfl, rfl⟩
    simp [Leaves, settle, results, Tryd.results41, go_sem]
    exact endT16 HI.out E2.out G2.out r2 o2 HGD.out hgl (hk2.imp id (fun ⟨x, h1, h2⟩ => ⟨x, h1, by omega⟩)) (hv2.imp id (fun ⟨x, h1, h2⟩ => ⟨x, h1, by omega⟩))
set_option maxRecDepth 100000 in
set_option maxHeartbeats 4000000 in
theorem accT_s9 (w : World) (r : GAt w g G vf vo vl) (h : Acc16 G) (rp : PtAt w t p a b k v V E K T) (hT : TabAt w) (hdis : ∀ x, own16 g vf vo vl x → ¬ (own14 t p a k v x ∨ x = b)) (hl : T.length ≤ 65536) (hst : G.st = 9) :
    Calls Tryd.prog 41 #[.pointer (some ⟨g, 0, none⟩), tface14 t] w (AccT g G vf vo vl t p a b k v (put14 V (ad16 G 7 (tk16 G) 0) (((G.load.length : Int)) % 65536)) E K (T ++ [(2, ad16 G 7 (tk16 G) 0, (G.load.length : Int))]) 0 w) := by
  have hmf : ∀ (fn : Fn) (first cap : Array Value) (w : World), (Instr.makeFunc fn first cap).run Tryd.prog w = .ok (.func fn first cap) w := fun _ _ _ _ => rfl
  have hout := h.held (by omega) (by omega)
  have hol := h.out
  obtain ⟨D, hD⟩ : ∃ A, tk16 G = A := ⟨_, rfl⟩
  rw [hD]
  obtain ⟨A, hA⟩ : ∃ A, ad16 G 7 D 0 = A := ⟨_, rfl⟩
  rw [hA]
  obtain ⟨Al, cl, rfl⟩ := own_open14 r.load
  have f7 := r.row.soft 7
  have c7 := r.row.cell 7
  have c6 := r.row.cell 6
  simp only [gvC, List.getElem?_cons_zero, List.getElem?_cons_succ] at c6 c7
  rw [h.ins] at c7
  rw [hst] at c6
  have hgl := r.row.lt
  have HLT := Lib.hid rp.lt
  have HI := Lib.hid h.ins
  obtain ⟨e0, e1, e2⟩ := enter16 w r
  obtain ⟨w1, hw1⟩ : ∃ w1, w1 = (w.setCell ⟨g, 7, none⟩ (.bool true)).alloc (.cells #[.pointer (some ⟨g, 0, none⟩)] 29) := ⟨_, rfl⟩
  rw [← hw1] at e0 e1 e2
  have hsz := e2.size
  have hgd : ∀ x, own14 t p a k v x ∨ x = b → x ≠ g := fun x hx e => hdis g (.inl rfl) (by rw [← e]; exact hx)
  have rp1 := rp.only e2 (fun x hx e => hgd x hx e)
  have hT1 : TabAt w1 := hT.only e2 (fun e => tab_ne hT r e)
  have z0 : w1.cell? ⟨w.heap.size, 0, none⟩ = some (.pointer (some ⟨g, 0, none⟩)) := e0.cell 0
  have c13 := e1.row.cell 13
  simp only [gvC, in16, List.getElem?_cons_zero, List.getElem?_cons_succ] at c13
  have K5 := Lib.hid (fun W (hb : Below w1.heap.size w1 W) => (taken16_any (G := in16 G) W (e1.below hb) hout (by show G.out.length ≤ 65536; omega)).mono (R' := fun e w' => e = .returned (.int .i64 D) ∧ Below w1.heap.size w1 w') (fun _ _ ⟨he, hb'⟩ => ⟨by rw [he, ← hD]; rfl, below_on hb hb'⟩))
  have K6 := Lib.hid (fun W (hb : Below w1.heap.size w1 W) => (at16_any (G := in16 G) 7 D 0 W (e1.below hb) h.B h.R.2 (hT1.below hb)).mono (R' := fun e w' => e = .returned (.int .i64 A) ∧ Below w1.heap.size w1 w') (fun _ _ ⟨he, hb'⟩ => ⟨by rw [he, ← hA]; rfl, below_on hb hb'⟩))
  have E0 := Lib.hid e0
  have E1 := Lib.hid e1
  have E2 := Lib.hid e2
  have HGD := Lib.hid hgd
  have HD := Lib.hid (fun x (hx : own16 g vf vo (.slice Al G.load.length cl) x) (hy : own14 t p a k v x) => hdis x hx (.inl hy))
  clear r h rp hT hdis e0 e1 e2 hgd hst
  have KP := Lib.hid (fun W (hb : Below w1.heap.size w1 W) => (tstore14_any A (G.load.length : Int) W (rp1.below hb) hl).mono (fun _ _ h => PtP.since hb h))
  have SB : Hid (∀ W, Row W w.heap.size 29 [.pointer (some ⟨g, 0, none⟩)] → GAt W g (in16 G) vf vo (.slice Al G.load.length cl) → W.cell? ⟨w.heap.size, 0, none⟩ = some (.pointer (some ⟨g, 0, none⟩)) ∧ W.cell? ⟨g, 13, none⟩ = some (.slice Al G.load.length cl)) := Lib.hid (fun W q0 q1 => ?sb)
  case sb =>
    have d0 := q0.cell 0
    have d13 := q1.row.cell 13
    simp only [gvC, in16, List.getElem?_cons_zero, List.getElem?_cons_succ] at d13
    exact ⟨d0, d13⟩
  have SN : Hid (∀ W, Below w1.heap.size w1 W → W.cell? ⟨w.heap.size, 0, none⟩ = some (.pointer (some ⟨g, 0, none⟩)) ∧ W.cell? ⟨g, 13, none⟩ = some (.slice Al G.load.length cl)) := Lib.hid (fun W hb => SB.out W (E0.out.below hb) (E1.out.below hb))
  have SO : Hid (∀ W, Only (own14 t p a k v) w1 W → W.cell? ⟨w.heap.size, 0, none⟩ = some (.pointer (some ⟨g, 0, none⟩)) ∧ W.cell? ⟨g, 13, none⟩ = some (.slice Al G.load.length cl)) := Lib.hid (fun W ho => SB.out W (E0.out.only ho (fun e => by have := HLT.out _ (.inl e); omega)) (E1.out.only ho (fun x hx hy => HD.out x hx hy)))
  unfold tface14
  go_enter_defers Tryd.func41, Tryd.ntmps41
  go_wp2_with fail
  rw [← hw1]
  clear hw1
  have hS0 := SN.out w1.drew (Below.refl _ _).drew
  have hbd : Below w1.heap.size w1 w1.drew := (Below.refl _ _).drew
  generalize hQ : w.heap.size = Q at *
  go_region_held3 (fun W => W.cell? ⟨Q, 0, none⟩ = some (.pointer (some ⟨g, 0, none⟩)) ∧ W.cell? ⟨g, 13, none⟩ = some (.slice Al G.load.length cl))
    (first | exact hS0 | exact hS2 | exact hS5 | exact hS6 | go_keep)
    (first
      | (go_at_call 101; refine (KP.out _ (by first | assumption)).mono ?_; rintro e w2 ⟨k2, v2, rfl, r2, o2, hk2, hv2⟩; have hS2 := SO.out _ o2)
      | (go_at_call 64; refine (K5.out _ (by first | assumption)).mono ?_; rintro e w5 ⟨rfl, hb5⟩; have hS5 := SN.out _ hb5)
      | (go_at_call 63; refine (K6.out _ (by first | assumption)).mono ?_; rintro e w6 ⟨rfl, hb6⟩; have hS6 := SN.out _ hb6))
  subst hQ
  all_goals
    go_wp2_with fail
    have G2 := Lib.hid (E1.out.only o2 (fun x hx hy => HD.out x hx hy))
    have T2 := Lib.hid (E0.out.only o2 (fun e => by have := HLT.out _ (.inl e); omega))
    have y0 : w2.cell? ⟨w.heap.size, 0, none⟩ = some (.pointer (some ⟨g, 0, none⟩)) := T2.out.cell 0
    have y7 := G2.out.row.cell 7
    have g7 := G2.out.row.soft 7
    simp only [gvC, in16, List.getElem?_cons_zero, List.getElem?_cons_succ] at y7
    refine leaves_cons (f := 62) (args := #[.pointer (some ⟨w.heap.size, 0, none⟩)]) (by simp) (by simp [go_sem]) ?_
    refine (caught16 w2 y0 y7 g7).mono ?_
    rintro e u' w3 ⟨rfl, rfl, rfl⟩
    simp [Leaves, settle, results, Tryd.results41, go_sem]
    exact endT16 HI.out E2.out G2.out r2 o2 HGD.out hgl (hk2.imp id (fun ⟨x, h1, h2⟩ => ⟨x, h1, by omega⟩)) (hv2.imp id (fun ⟨x, h1, h2⟩ => ⟨x, h1, by omega⟩))
set_option maxRecDepth 100000 in
set_option maxHeartbeats 4000000 in
theorem accT_s10 (w : World) (r : GAt w g G vf vo vl) (h : Acc16 G) (rp : PtAt w t p a b k v V E K T) (hT : TabAt w) (hdis : ∀ x, own16 g vf vo vl x → ¬ (own14 t p a k v x ∨ x = b)) (hl : T.length ≤ 65536) (hst : G.st = 10) :
    Calls Tryd.prog 41 #[.pointer (some ⟨g, 0, none⟩), tface14 t] w (AccT g G vf vo vl t p a b k v (put14 V (ad16 G 5 (G.next % (G.R : Int)) 0) ((tk16 G) % 65536)) E K (T ++ [(2, ad16 G 5 (G.next % (G.R : Int)) 0, tk16 G)]) 0 w) := by
  have hmf : ∀ (fn : Fn) (first cap : Array Value) (w : World), (Instr.makeFunc fn first cap).run Tryd.prog w = .ok (.func fn first cap) w := fun _ _ _ _ => rfl
  have hout := h.held (by omega) (by omega)
  have hol := h.out
  obtain ⟨D, hD⟩ : ∃ A, tk16 G = A := ⟨_, rfl⟩
  rw [hD]
  obtain ⟨m, hm⟩ : ∃ m, G.next % (G.R : Int) = m := ⟨_, rfl⟩
  have hm0 : 0 ≤ m ∧ m < 64 := by
    have h1 := Int.emod_nonneg G.next (show (G.R : Int) ≠ 0 by have := h.R; omega)
    have h2 := Int.emod_lt_of_pos G.next (show (0 : Int) < (G.R : Int) by have := h.R; omega)
    have := h.R
    omega
  have hmt : G.next.tmod (G.R : Int) = m := by rw [Int.tmod_eq_emod_of_nonneg h.next.1]; exact hm
  have hmw : wrap64 m = m := by rw [← IntWalk.i64_left, IntWalk.i64_in _ (by omega)]
  have hR0 : (G.R : Int) ≠ 0 := by have := h.R; omega
  have hR1 : ¬ G.R = 0 := by have := h.R; omega
  rw [hm]
  obtain ⟨A, hA⟩ : ∃ A, ad16 G 5 m 0 = A := ⟨_, rfl⟩
  rw [hA]
  have f7 := r.row.soft 7
  have c7 := r.row.cell 7
  have c6 := r.row.cell 6
  simp only [gvC, List.getElem?_cons_zero, List.getElem?_cons_succ] at c6 c7
  rw [h.ins] at c7
  rw [hst] at c6
  have hgl := r.row.lt
  have HLT := Lib.hid rp.lt
  have HI := Lib.hid h.ins
  obtain ⟨e0, e1, e2⟩ := enter16 w r
  obtain ⟨w1, hw1⟩ : ∃ w1, w1 = (w.setCell ⟨g, 7, none⟩ (.bool true)).alloc (.cells #[.pointer (some ⟨g, 0, none⟩)] 29) := ⟨_, rfl⟩
  rw [← hw1] at e0 e1 e2
  have hsz := e2.size
  have hgd : ∀ x, own14 t p a k v x ∨ x = b → x ≠ g := fun x hx e => hdis g (.inl rfl) (by rw [← e]; exact hx)
  have rp1 := rp.only e2 (fun x hx e => hgd x hx e)
  have hT1 : TabAt w1 := hT.only e2 (fun e => tab_ne hT r e)
  have z0 : w1.cell? ⟨w.heap.size, 0, none⟩ = some (.pointer (some ⟨g, 0, none⟩)) := e0.cell 0
  have c1 := e1.row.cell 1
  have c11 := e1.row.cell 11
  simp only [gvC, in16, List.getElem?_cons_zero, List.getElem?_cons_succ] at c1 c11
  have K5 := Lib.hid (fun W (hb : Below w1.heap.size w1 W) => (at16_any (G := in16 G) 5 m 0 W (e1.below hb) h.B h.R.2 (hT1.below hb)).mono (R' := fun e w' => e = .returned (.int .i64 A) ∧ Below w1.heap.size w1 w') (fun _ _ ⟨he, hb'⟩ => ⟨by rw [he, ← hA]; rfl, below_on hb hb'⟩))
  have K6 := Lib.hid (fun W (hb : Below w1.heap.size w1 W) => (taken16_any (G := in16 G) W (e1.below hb) hout (by show G.out.length ≤ 65536; omega)).mono (R' := fun e w' => e = .returned (.int .i64 D) ∧ Below w1.heap.size w1 w') (fun _ _ ⟨he, hb'⟩ => ⟨by rw [he, ← hD]; rfl, below_on hb hb'⟩))
  have E0 := Lib.hid e0
  have E1 := Lib.hid e1
  have E2 := Lib.hid e2
  have HGD := Lib.hid hgd
  have HD := Lib.hid (fun x (hx : own16 g vf vo vl x) (hy : own14 t p a k v x) => hdis x hx (.inl hy))
  clear r h rp hT hdis e0 e1 e2 hgd hst
  have KP := Lib.hid (fun W (hb : Below w1.heap.size w1 W) => (tstore14_any A D W (rp1.below hb) hl).mono (fun _ _ h => PtP.since hb h))
  have SB : Hid (∀ W, Row W w.heap.size 29 [.pointer (some ⟨g, 0, none⟩)] → GAt W g (in16 G) vf vo vl → W.cell? ⟨w.heap.size, 0, none⟩ = some (.pointer (some ⟨g, 0, none⟩)) ∧ W.cell? ⟨g, 1, none⟩ = some (.int .i64 (G.R : Int)) ∧ W.cell? ⟨g, 11, none⟩ = some (.int .i64 G.next)) := Lib.hid (fun W q0 q1 => ?sb)
  case sb =>
    have d0 := q0.cell 0
    have d1 := q1.row.cell 1
    have d11 := q1.row.cell 11
    simp only [gvC, in16, List.getElem?_cons_zero, List.getElem?_cons_succ] at d1 d11
    exact ⟨d0, d1, d11⟩
  have SN : Hid (∀ W, Below w1.heap.size w1 W → W.cell? ⟨w.heap.size, 0, none⟩ = some (.pointer (some ⟨g, 0, none⟩)) ∧ W.cell? ⟨g, 1, none⟩ = some (.int .i64 (G.R : Int)) ∧ W.cell? ⟨g, 11, none⟩ = some (.int .i64 G.next)) := Lib.hid (fun W hb => SB.out W (E0.out.below hb) (E1.out.below hb))
  have SO : Hid (∀ W, Only (own14 t p a k v) w1 W → W.cell? ⟨w.heap.size, 0, none⟩ = some (.pointer (some ⟨g, 0, none⟩)) ∧ W.cell? ⟨g, 1, none⟩ = some (.int .i64 (G.R : Int)) ∧ W.cell? ⟨g, 11, none⟩ = some (.int .i64 G.next)) := Lib.hid (fun W ho => SB.out W (E0.out.only ho (fun e => by have := HLT.out _ (.inl e); omega)) (E1.out.only ho (fun x hx hy => HD.out x hx hy)))
  unfold tface14
  go_enter_defers Tryd.func41, Tryd.ntmps41
  go_wp2_with fail
  rw [← hw1]
  clear hw1
  have hS0 := SN.out w1.drew (Below.refl _ _).drew
  have hbd : Below w1.heap.size w1 w1.drew := (Below.refl _ _).drew
  generalize hQ : w.heap.size = Q at *
  go_region_held3 (fun W => W.cell? ⟨Q, 0, none⟩ = some (.pointer (some ⟨g, 0, none⟩)) ∧ W.cell? ⟨g, 1, none⟩ = some (.int .i64 (G.R : Int)) ∧ W.cell? ⟨g, 11, none⟩ = some (.int .i64 G.next))
    (first | exact hS0 | exact hS2 | exact hS5 | exact hS6 | go_keep)
    (first
      | (go_at_call 101; refine (KP.out _ (by first | assumption)).mono ?_; rintro e w2 ⟨k2, v2, rfl, r2, o2, hk2, hv2⟩; have hS2 := SO.out _ o2)
      | (go_at_call 63; refine (K5.out _ (by first | assumption)).mono ?_; rintro e w5 ⟨rfl, hb5⟩; have hS5 := SN.out _ hb5)
      | (go_at_call 64; refine (K6.out _ (by first | assumption)).mono ?_; rintro e w6 ⟨rfl, hb6⟩; have hS6 := SN.out _ hb6))
  subst hQ
  all_goals
    go_wp2_with fail
    have G2 := Lib.hid (E1.out.only o2 (fun x hx hy => HD.out x hx hy))
    have T2 := Lib.hid (E0.out.only o2 (fun e => by have := HLT.out _ (.inl e); omega))
    have y0 : w2.cell? ⟨w.heap.size, 0, none⟩ = some (.pointer (some ⟨g, 0, none⟩)) := T2.out.cell 0
    have y7 := G2.out.row.cell 7
    have g7 := G2.out.row.soft 7
    simp only [gvC, in16, List.getElem?_cons_zero, List.getElem?_cons_succ] at y7
    refine leaves_cons (f := 62) (args := #[.pointer (some ⟨w.heap.size, 0, none⟩)]) (by simp) (by simp [go_sem]) ?_
    refine (caught16 w2 y0 y7 g7).mono ?_
    rintro e u' w3 ⟨rfl, rfl, rfl⟩
    simp [Leaves, settle, results, Tryd.results41, go_sem]
    exact endT16 HI.out E2.out G2.out r2 o2 HGD.out hgl (hk2.imp id (fun ⟨x, h1, h2⟩ => ⟨x, h1, by omega⟩)) (hv2.imp id (fun ⟨x, h1, h2⟩ => ⟨x, h1, by omega⟩))
set_option maxRecDepth 100000 in
set_option maxHeartbeats 4000000 in
theorem accT_s12 (w : World) (r : GAt w g G vf vo vl) (h : Acc16 G) (rp : PtAt w t p a b k v V E K T) (hT : TabAt w) (hdis : ∀ x, own16 g vf vo vl x → ¬ (own14 t p a k v x ∨ x = b)) (hl : T.length ≤ 65536) (hst : G.st = 12) :
    Calls Tryd.prog 41 #[.pointer (some ⟨g, 0, none⟩), tface14 t] w (AccT g G vf vo vl t p a b k v (put14 V (ad16 G 3 0 0) ((addW G.next 1) % 65536)) E K (T ++ [(2, ad16 G 3 0 0, addW G.next 1)]) 0 w) := by
  have hmf : ∀ (fn : Fn) (first cap : Array Value) (w : World), (Instr.makeFunc fn first cap).run Tryd.prog w = .ok (.func fn first cap) w := fun _ _ _ _ => rfl
  obtain ⟨U, hU⟩ : ∃ A, addW G.next 1 = A := ⟨_, rfl⟩
  rw [hU]
  obtain ⟨A, hA⟩ : ∃ A, ad16 G 3 0 0 = A := ⟨_, rfl⟩
  rw [hA]
  have f7 := r.row.soft 7
  have c7 := r.row.cell 7
  have c6 := r.row.cell 6
  simp only [gvC, List.getElem?_cons_zero, List.getElem?_cons_succ] at c6 c7
  rw [h.ins] at c7
  rw [hst] at c6
  have hgl := r.row.lt
  have HLT := Lib.hid rp.lt
  have HI := Lib.hid h.ins
  obtain ⟨e0, e1, e2⟩ := enter16 w r
  obtain ⟨w1, hw1⟩ : ∃ w1, w1 = (w.setCell ⟨g, 7, none⟩ (.bool true)).alloc (.cells #[.pointer (some ⟨g, 0, none⟩)] 29) := ⟨_, rfl⟩
  rw [← hw1] at e0 e1 e2
  have hsz := e2.size
  have hgd : ∀ x, own14 t p a k v x ∨ x = b → x ≠ g := fun x hx e => hdis g (.inl rfl) (by rw [← e]; exact hx)
  have rp1 := rp.only e2 (fun x hx e => hgd x hx e)
  have hT1 : TabAt w1 := hT.only e2 (fun e => tab_ne hT r e)
  have z0 : w1.cell? ⟨w.heap.size, 0, none⟩ = some (.pointer (some ⟨g, 0, none⟩)) := e0.cell 0
  have c11 := e1.row.cell 11
  simp only [gvC, in16, List.getElem?_cons_zero, List.getElem?_cons_succ] at c11
  have K5 := Lib.hid (fun W (hb : Below w1.heap.size w1 W) => (at16_any (G := in16 G) 3 0 0 W (e1.below hb) h.B h.R.2 (hT1.below hb)).mono (R' := fun e w' => e = .returned (.int .i64 A) ∧ Below w1.heap.size w1 w') (fun _ _ ⟨he, hb'⟩ => ⟨by rw [he, ← hA]; rfl, below_on hb hb'⟩))
  have K6 := Lib.hid (fun W (hb : Below w1.heap.size w1 W) => (add_any G.next 1 W).mono (R' := fun e w' => e = .returned (.int .i64 U) ∧ Below w1.heap.size w1 w') (fun _ _ ⟨he, hw⟩ => ⟨by rw [he, ← hU], by rw [← hw]; exact hb⟩))
  have E0 := Lib.hid e0
  have E1 := Lib.hid e1
  have E2 := Lib.hid e2
  have HGD := Lib.hid hgd
  have HD := Lib.hid (fun x (hx : own16 g vf vo vl x) (hy : own14 t p a k v x) => hdis x hx (.inl hy))
  clear r h rp hT hdis e0 e1 e2 hgd hst
  have KP := Lib.hid (fun W (hb : Below w1.heap.size w1 W) => (tstore14_any A U W (rp1.below hb) hl).mono (fun _ _ h => PtP.since hb h))
  have SB : Hid (∀ W, Row W w.heap.size 29 [.pointer (some ⟨g, 0, none⟩)] → GAt W g (in16 G) vf vo vl → W.cell? ⟨w.heap.size, 0, none⟩ = some (.pointer (some ⟨g, 0, none⟩)) ∧ W.cell? ⟨g, 11, none⟩ = some (.int .i64 G.next)) := Lib.hid (fun W q0 q1 => ?sb)
  case sb =>
    have d0 := q0.cell 0
    have d11 := q1.row.cell 11
    simp only [gvC, in16, List.getElem?_cons_zero, List.getElem?_cons_succ] at d11
    exact ⟨d0, d11⟩
  have SN : Hid (∀ W, Below w1.heap.size w1 W → W.cell? ⟨w.heap.size, 0, none⟩ = some (.pointer (some ⟨g, 0, none⟩)) ∧ W.cell? ⟨g, 11, none⟩ = some (.int .i64 G.next)) := Lib.hid (fun W hb => SB.out W (E0.out.below hb) (E1.out.below hb))
  have SO : Hid (∀ W, Only (own14 t p a k v) w1 W → W.cell? ⟨w.heap.size, 0, none⟩ = some (.pointer (some ⟨g, 0, none⟩)) ∧ W.cell? ⟨g, 11, none⟩ = some (.int .i64 G.next)) := Lib.hid (fun W ho => SB.out W (E0.out.only ho (fun e => by have := HLT.out _ (.inl e); omega)) (E1.out.only ho (fun x hx hy => HD.out x hx hy)))
  unfold tface14
  go_enter_defers Tryd.func41, Tryd.ntmps41
  go_wp2_with fail
  rw [← hw1]
  clear hw1
  have hS0 := SN.out w1.drew (Below.refl _ _).drew
  have hbd : Below w1.heap.size w1 w1.drew := (Below.refl _ _).drew
  generalize hQ : w.heap.size = Q at *
  go_region_held3 (fun W => W.cell? ⟨Q, 0, none⟩ = some (.pointer (some ⟨g, 0, none⟩)) ∧ W.cell? ⟨g, 11, none⟩ = some (.int .i64 G.next))
    (first | exact hS0 | exact hS2 | exact hS5 | exact hS6 | go_keep)
    (first
      | (go_at_call 101; refine (KP.out _ (by first | assumption)).mono ?_; rintro e w2 ⟨k2, v2, rfl, r2, o2, hk2, hv2⟩; have hS2 := SO.out _ o2)
      | (go_at_call 63; refine (K5.out _ (by first | assumption)).mono ?_; rintro e w5 ⟨rfl, hb5⟩; have hS5 := SN.out _ hb5)
      | (go_at_call 65; refine (K6.out _ (by first | assumption)).mono ?_; rintro e w6 ⟨rfl, hb6⟩; have hS6 := SN.out _ hb6))
  subst hQ
  all_goals
    go_wp2_with fail
    have G2 := Lib.hid (E1.out.only o2 (fun x hx hy => HD.out x hx hy))
    have T2 := Lib.hid (E0.out.only o2 (fun e => by have := HLT.out _ (.inl e); omega))
    have y0 : w2.cell? ⟨w.heap.size, 0, none⟩ = some (.pointer (some ⟨g, 0, none⟩)) := T2.out.cell 0
    have y7 := G2.out.row.cell 7
    have g7 := G2.out.row.soft 7
    simp only [gvC, in16, List.getElem?_cons_zero, List.getElem?_cons_succ] at y7
    refine leaves_cons (f := 62) (args := #[.pointer (some ⟨w.heap.size, 0, none⟩)]) (by simp) (by simp [go_sem]) ?_
    refine (caught16 w2 y0 y7 g7).mono ?_
    rintro e u' w3 ⟨rfl, rfl, rfl⟩
    simp [Leaves, settle, results, Tryd.results41, go_sem]
    exact endT16 HI.out E2.out G2.out r2 o2 HGD.out hgl (hk2.imp id (fun ⟨x, h1, h2⟩ => ⟨x, h1, by omega⟩)) (hv2.imp id (fun ⟨x, h1, h2⟩ => ⟨x, h1, by omega⟩))
set_option maxRecDepth 100000 in
set_option maxHeartbeats 4000000 in
theorem accT_s8 (w : World) (r : GAt w g G vf vo vl) (h : Acc16 G) (rp : PtAt w t p a b k v V E K T) (hT : TabAt w) (hdis : ∀ x, own16 g vf vo vl x → ¬ (own14 t p a k v x ∨ x = b)) (hl : T.length ≤ 65536) (hst : G.st = 8) :
    Calls Tryd.prog 41 #[.pointer (some ⟨g, 0, none⟩), tface14 t] w (AccT g G vf vo vl t p a b k v (put14 V (ad16 G 8 (tk16 G) (G.sto : Int)) ((G.load.getD G.sto 0) % 65536)) E K (T ++ [(2, ad16 G 8 (tk16 G) (G.sto : Int), G.load.getD G.sto 0)]) 0 w) := by
  have hmf : ∀ (fn : Fn) (first cap : Array Value) (w : World), (Instr.makeFunc fn first cap).run Tryd.prog w = .ok (.func fn first cap) w := fun _ _ _ _ => rfl
  have hout := h.held (by omega) (by omega)
  have hol := h.out
  obtain ⟨D, hD⟩ : ∃ A, tk16 G = A := ⟨_, rfl⟩
  rw [hD]
  obtain ⟨A, hA⟩ : ∃ A, ad16 G 8 D (G.sto : Int) = A := ⟨_, rfl⟩
  rw [hA]
  have hw := h.word hst
  obtain ⟨lb, cl, rfl, _, hlb⟩ := r.load.form (by omega)
  obtain ⟨u, hu⟩ : ∃ u, G.load.getD G.sto 0 = u := ⟨_, rfl⟩
  rw [hu]
  have hu1 : (ints G.load)[G.sto]? = some (.int .i64 u) := by rw [ints_at _ _ hw, hu]
  have HU := Lib.hid hu1
  have hw1 : (G.sto : Int) < (G.load.length : Int) := by omega
  have hw0 : (0 : Int) ≤ (G.sto : Int) := by omega
  clear hu hu1
  have f7 := r.row.soft 7
  have c7 := r.row.cell 7
  have c6 := r.row.cell 6
  simp only [gvC, List.getElem?_cons_zero, List.getElem?_cons_succ] at c6 c7
  rw [h.ins] at c7
  rw [hst] at c6
  have hgl := r.row.lt
  have HLT := Lib.hid rp.lt
  have HI := Lib.hid h.ins
  obtain ⟨e0, e1, e2⟩ := enter16 w r
  obtain ⟨w1, hw1⟩ : ∃ w1, w1 = (w.setCell ⟨g, 7, none⟩ (.bool true)).alloc (.cells #[.pointer (some ⟨g, 0, none⟩)] 29) := ⟨_, rfl⟩
  rw [← hw1] at e0 e1 e2
  have hsz := e2.size
  have hgd : ∀ x, own14 t p a k v x ∨ x = b → x ≠ g := fun x hx e => hdis g (.inl rfl) (by rw [← e]; exact hx)
  have rp1 := rp.only e2 (fun x hx e => hgd x hx e)
  have hT1 : TabAt w1 := hT.only e2 (fun e => tab_ne hT r e)
  have z0 : w1.cell? ⟨w.heap.size, 0, none⟩ = some (.pointer (some ⟨g, 0, none⟩)) := e0.cell 0
  have c13 := e1.row.cell 13
  have c14 := e1.row.cell 14
  simp only [gvC, in16, List.getElem?_cons_zero, List.getElem?_cons_succ] at c13 c14
  have K5 := Lib.hid (fun W (hb : Below w1.heap.size w1 W) => (taken16_any (G := in16 G) W (e1.below hb) hout (by show G.out.length ≤ 65536; omega)).mono (R' := fun e w' => e = .returned (.int .i64 D) ∧ Below w1.heap.size w1 w') (fun _ _ ⟨he, hb'⟩ => ⟨by rw [he, ← hD]; rfl, below_on hb hb'⟩))
  have K6 := Lib.hid (fun W (hb : Below w1.heap.size w1 W) => (at16_any (G := in16 G) 8 D (G.sto : Int) W (e1.below hb) h.B h.R.2 (hT1.below hb)).mono (R' := fun e w' => e = .returned (.int .i64 A) ∧ Below w1.heap.size w1 w') (fun _ _ ⟨he, hb'⟩ => ⟨by rw [he, ← hA]; rfl, below_on hb hb'⟩))
  have E0 := Lib.hid e0
  have E1 := Lib.hid e1
  have E2 := Lib.hid e2
  have HGD := Lib.hid hgd
  have HD := Lib.hid (fun x (hx : own16 g vf vo (.slice (some ⟨lb, 0, none⟩) G.load.length cl) x) (hy : own14 t p a k v x) => hdis x hx (.inl hy))
  clear r h rp hT hdis e0 e1 e2 hgd hst
  have KP := Lib.hid (fun W (hb : Below w1.heap.size w1 W) => (tstore14_any A u W (rp1.below hb) hl).mono (fun _ _ h => PtP.since hb h))
  have SB : Hid (∀ W, Row W w.heap.size 29 [.pointer (some ⟨g, 0, none⟩)] → GAt W g (in16 G) vf vo (.slice (some ⟨lb, 0, none⟩) G.load.length cl) → W.cell? ⟨w.heap.size, 0, none⟩ = some (.pointer (some ⟨g, 0, none⟩)) ∧ W.cell? ⟨g, 13, none⟩ = some (.slice (some ⟨lb, 0, none⟩) G.load.length cl) ∧ W.cell? ⟨g, 14, none⟩ = some (.int .i64 (G.sto : Int)) ∧ W.cell? ⟨lb, G.sto, none⟩ = some (.int .i64 u)) := Lib.hid (fun W q0 q1 => ?sb)
  case sb =>
    have d0 := q0.cell 0
    have d13 := q1.row.cell 13
    have d14 := q1.row.cell 14
    simp only [gvC, in16, List.getElem?_cons_zero, List.getElem?_cons_succ] at d13 d14
    exact ⟨d0, d13, d14, (q1.load.cellAt G.sto (by show G.sto < G.load.length * 1; omega)).trans HU.out⟩
  have SN : Hid (∀ W, Below w1.heap.size w1 W → W.cell? ⟨w.heap.size, 0, none⟩ = some (.pointer (some ⟨g, 0, none⟩)) ∧ W.cell? ⟨g, 13, none⟩ = some (.slice (some ⟨lb, 0, none⟩) G.load.length cl) ∧ W.cell? ⟨g, 14, none⟩ = some (.int .i64 (G.sto : Int)) ∧ W.cell? ⟨lb, G.sto, none⟩ = some (.int .i64 u)) := Lib.hid (fun W hb => SB.out W (E0.out.below hb) (E1.out.below hb))
  have SO : Hid (∀ W, Only (own14 t p a k v) w1 W → W.cell? ⟨w.heap.size, 0, none⟩ = some (.pointer (some ⟨g, 0, none⟩)) ∧ W.cell? ⟨g, 13, none⟩ = some (.slice (some ⟨lb, 0, none⟩) G.load.length cl) ∧ W.cell? ⟨g, 14, none⟩ = some (.int .i64 (G.sto : Int)) ∧ W.cell? ⟨lb, G.sto, none⟩ = some (.int .i64 u)) := Lib.hid (fun W ho => SB.out W (E0.out.only ho (fun e => by have := HLT.out _ (.inl e); omega)) (E1.out.only ho (fun x hx hy => HD.out x hx hy)))
  unfold tface14
  go_enter_defers Tryd.func41, Tryd.ntmps41
  go_wp2_with fail
  rw [← hw1]
  clear hw1
  have hS0 := SN.out w1.drew (Below.refl _ _).drew
  have hbd : Below w1.heap.size w1 w1.drew := (Below.refl _ _).drew
  generalize hQ : w.heap.size = Q at *
  go_region_held3 (fun W => W.cell? ⟨Q, 0, none⟩ = some (.pointer (some ⟨g, 0, none⟩)) ∧ W.cell? ⟨g, 13, none⟩ = some (.slice (some ⟨lb, 0, none⟩) G.load.length cl) ∧ W.cell? ⟨g, 14, none⟩ = some (.int .i64 (G.sto : Int)) ∧ W.cell? ⟨lb, G.sto, none⟩ = some (.int .i64 u))
    (first | exact hS0 | exact hS2 | exact hS5 | exact hS6 | go_keep)
    (first
      | (go_at_call 101; refine (KP.out _ (by first | assumption)).mono ?_; rintro e w2 ⟨k2, v2, rfl, r2, o2, hk2, hv2⟩; have hS2 := SO.out _ o2)
      | (go_at_call 64; refine (K5.out _ (by first | assumption)).mono ?_; rintro e w5 ⟨rfl, hb5⟩; have hS5 := SN.out _ hb5)
      | (go_at_call 63; refine (K6.out _ (by first | assumption)).mono ?_; rintro e w6 ⟨rfl, hb6⟩; have hS6 := SN.out _ hb6))
  subst hQ
  all_goals
    go_wp2_with fail
    have G2 := Lib.hid (E1.out.only o2 (fun x hx hy => HD.out x hx hy))
    have T2 := Lib.hid (E0.out.only o2 (fun e => by have := HLT.out _ (.inl e); omega))
    have y0 : w2.cell? ⟨w.heap.size, 0, none⟩ = some (.pointer (some ⟨g, 0, none⟩)) := T2.out.cell 0
    have y7 := G2.out.row.cell 7
    have g7 := G2.out.row.soft 7
    simp only [gvC, in16, List.getElem?_cons_zero, List.getElem?_cons_succ] at y7
    refine leaves_cons (f := 62) (args := #[.pointer (some ⟨w.heap.size, 0, none⟩)]) (by simp) (by simp [go_sem]) ?_
    refine (caught16 w2 y0 y7 g7).mono ?_
    rintro e u' w3 ⟨rfl, rfl, rfl⟩
    simp [Leaves, settle, results, Tryd.results41, go_sem]
    exact endT16 HI.out E2.out G2.out r2 o2 HGD.out hgl (hk2.imp id (fun ⟨x, h1, h2⟩ => ⟨x, h1, by omega⟩)) (hv2.imp id (fun ⟨x, h1, h2⟩ => ⟨x, h1, by omega⟩))
/-- The word, the kicks and the list that an access makes, and what it reads. -/
def aV16 (V : List Int) (x : Tch) : List Int := dV14 V x.1 x.2.1 x.2.2
def aK16 (K : List Int) (x : Tch) : List Int := dK14 K x.1 x.2.1
def aT16 (V E : List Int) (x : Tch) : List Tch := dT14 V E x.1 x.2.1 x.2.2
def aN16 (V E : List Int) (x : Tch) : Int := dN14 V E x.1 x.2.1
theorem accT_any (w : World) (r : GAt w g G vf vo vl) (h : Acc16 G) (rp : PtAt w t p a b k v V E K T) (hT : TabAt w) (hdis : ∀ x, own16 g vf vo vl x → ¬ (own14 t p a k v x ∨ x = b)) (hl : T.length ≤ 65536) (hkl : K.length ≤ 65536) (hst : 1 ≤ G.st ∧ G.st ≤ 15) :
    Calls Tryd.prog 41 #[.pointer (some ⟨g, 0, none⟩), tface14 t] w (AccT g G vf vo vl t p a b k v (aV16 V (tch16 G)) E (aK16 K (tch16 G)) (T ++ aT16 V E (tch16 G)) (aN16 V E (tch16 G)) w) := by
  have : G.st = 1 ∨ G.st = 2 ∨ G.st = 3 ∨ G.st = 4 ∨ G.st = 5 ∨ G.st = 6 ∨ G.st = 7 ∨ G.st = 8 ∨ G.st = 9 ∨ G.st = 10 ∨ G.st = 11 ∨ G.st = 12 ∨ G.st = 13 ∨ G.st = 14 ∨ G.st = 15 := by omega
  rcases this with e | e | e | e | e | e | e | e | e | e | e | e | e | e | e
  · have := accT_s1 w r h rp hT hdis hl e
    unfold tch16 aV16 aK16 aT16 aN16
    simpa [e, dV14, dK14, dT14, dN14] using this
  · have := accT_s2 w r h rp hT hdis hl e
    unfold tch16 aV16 aK16 aT16 aN16
    simpa [e, dV14, dK14, dT14, dN14] using this
  · have := accT_s3 w r h rp hT hdis hl e
    unfold tch16 aV16 aK16 aT16 aN16
    simpa [e, dV14, dK14, dT14, dN14] using this
  · have := accT_s4 w r h rp hT hdis hl e
    unfold tch16 aV16 aK16 aT16 aN16
    simpa [e, dV14, dK14, dT14, dN14] using this
  · have := accT_s5 w r h rp hT hdis hl e
    unfold tch16 aV16 aK16 aT16 aN16
    simpa [e, dV14, dK14, dT14, dN14] using this
  · have := accT_s6 w r h rp hT hdis hl e
    unfold tch16 aV16 aK16 aT16 aN16
    simpa [e, dV14, dK14, dT14, dN14] using this
  · have := accT_s7 w r h rp hT hdis hl e
    unfold tch16 aV16 aK16 aT16 aN16
    simpa [e, dV14, dK14, dT14, dN14] using this
  · have := accT_s8 w r h rp hT hdis hl e
    unfold tch16 aV16 aK16 aT16 aN16
    simpa [e, dV14, dK14, dT14, dN14] using this
  · have := accT_s9 w r h rp hT hdis hl e
    unfold tch16 aV16 aK16 aT16 aN16
    simpa [e, dV14, dK14, dT14, dN14] using this
  · have := accT_s10 w r h rp hT hdis hl e
    unfold tch16 aV16 aK16 aT16 aN16
    simpa [e, dV14, dK14, dT14, dN14] using this
  · have := accT_s11 w r h rp hT hdis hl e
    unfold tch16 aV16 aK16 aT16 aN16
    simpa [e, dV14, dK14, dT14, dN14] using this
  · have := accT_s12 w r h rp hT hdis hl e
    unfold tch16 aV16 aK16 aT16 aN16
    simpa [e, dV14, dK14, dT14, dN14] using this
  · have := accT_s13 w r h rp hT hdis hl e
    unfold tch16 aV16 aK16 aT16 aN16
    simpa [e, dV14, dK14, dT14, dN14] using this
  · have := accT_s14 w r h rp hT hdis hl hkl e
    unfold tch16 aV16 aK16 aT16 aN16
    simpa [e, dV14, dK14, dT14, dN14] using this
  · have := accT_s15 w r h rp hT hdis hl e
    unfold tch16 aV16 aK16 aT16 aN16
    simpa [e, dV14, dK14, dT14, dN14] using this
end
end

section
open Go.ChangeShapes Go.WideShapes Go.ChangeAt Go.RowKit
/-- The blocks of a Plain that a call may change. -/
def own14p (p a : Nat) (k : Value) (x : Nat) : Prop := x = p ∨ x = a ∨ k.ownBlock = some x
section
variable {g : Nat} {G : Gv} {vf vo vl : Value} {p a b : Nat} {k : Value} {V E K : List Int}
theorem PlainAt.lt {w : World} (r : PlainAt w p a b k V E K) : ∀ x, own14p p a k x ∨ x = b → x < w.heap.size := by
  rintro x (h | rfl)
  · rcases h with rfl | rfl | h
    · exact r.row.lt
    · exact r.words.lt
    · exact (r.kb h).2
  · exact r.epochs.lt
end
end

section
open Go.ChangeShapes Go.WideShapes Go.ChangeAt Go.RowKit
/-- A giver alone; its blocks are among those that U allows. -/
def GIs (w : World) (U : Nat → Prop) (g : Nat) (G : Gv) : Prop := ∃ vf vo vl, GAt w g G vf vo vl ∧ ∀ x, own16 g vf vo vl x → U x
/-- A giver, and a Trace that forwards to a Plain; their blocks are among those that U allows. -/
def Sys16 (w : World) (U : Nat → Prop) (g t p : Nat) (G : Gv) (V E K : List Int) (T : List Tch) : Prop :=
  ∃ vf vo vl a b k v, GAt w g G vf vo vl ∧ PtAt w t p a b k v V E K T ∧ (∀ x, own16 g vf vo vl x → ¬ (own14 t p a k v x ∨ x = b)) ∧ (∀ x, own16 g vf vo vl x → U x) ∧ ∀ x, own14 t p a k v x ∨ x = b → U x
section
variable {U : Nat → Prop} {g t p : Nat} {G : Gv} {V E K : List Int} {T : List Tch} {w w' : World}
theorem GIs.weak {U' : Nat → Prop} (s : GIs w U g G) (h : ∀ x, x < w.heap.size → U x → U' x) : GIs w U' g G := by
  obtain ⟨vf, vo, vl, r, hU⟩ := s
  exact ⟨vf, vo, vl, r, fun x hx => h x (own16_lt r hx) (hU x hx)⟩
theorem GIs.only {S : Nat → Prop} (s : GIs w U g G) (ho : Only S w w') (hS : ∀ x, x < w.heap.size → U x → ¬ S x) : GIs w' U g G := by
  obtain ⟨vf, vo, vl, r, hU⟩ := s
  exact ⟨vf, vo, vl, r.only ho (fun x hx => hS x (own16_lt r hx) (hU x hx)), hU⟩
theorem GIs.below (s : GIs w U g G) (hb : Below w.heap.size w w') : GIs w' U g G := s.only (Only.of_below hb (fun _ => False)) (fun _ _ _ h => h)
theorem Sys16.weak {U' : Nat → Prop} (s : Sys16 w U g t p G V E K T) (h : ∀ x, x < w.heap.size → U x → U' x) : Sys16 w U' g t p G V E K T := by
  obtain ⟨vf, vo, vl, a, b, k, v, r, rp, hd, h1, h2⟩ := s
  exact ⟨vf, vo, vl, a, b, k, v, r, rp, hd, fun x hx => h x (own16_lt r hx) (h1 x hx), fun x hx => h x (rp.lt x hx) (h2 x hx)⟩
theorem Sys16.only {S : Nat → Prop} (s : Sys16 w U g t p G V E K T) (ho : Only S w w') (hS : ∀ x, x < w.heap.size → U x → ¬ S x) : Sys16 w' U g t p G V E K T := by
  obtain ⟨vf, vo, vl, a, b, k, v, r, rp, hd, h1, h2⟩ := s
  exact ⟨vf, vo, vl, a, b, k, v, r.only ho (fun x hx => hS x (own16_lt r hx) (h1 x hx)), rp.only ho (fun x hx => hS x (rp.lt x hx) (h2 x hx)), hd, h1, h2⟩
theorem Sys16.below (s : Sys16 w U g t p G V E K T) (hb : Below w.heap.size w w') : Sys16 w' U g t p G V E K T := s.only (Only.of_below hb (fun _ => False)) (fun _ _ _ h => h)
theorem Sys16.gis (s : Sys16 w U g t p G V E K T) : GIs w U g G := by
  obtain ⟨vf, vo, vl, a, b, k, v, r, rp, hd, h1, h2⟩ := s
  exact ⟨vf, vo, vl, r, h1⟩
/-- A giver and a port that is newer. -/
theorem sys16_of {a b : Nat} {k v : Value} {w0 : World} (s : GIs w0 U g G) (hb : Below w0.heap.size w0 w) (rp : PtAt w t p a b k v V E K T) (hn : ∀ x, own14 t p a k v x ∨ x = b → w0.heap.size ≤ x) : Sys16 w (fun x => U x ∨ w0.heap.size ≤ x) g t p G V E K T := by
  obtain ⟨vf, vo, vl, r, hU⟩ := s
  exact ⟨vf, vo, vl, a, b, k, v, r.below hb, rp, fun x hx hy => by have := own16_lt r hx; have := hn x hy; omega, fun x hx => .inl (hU x hx), fun x hx => .inr (hn x hx)⟩
/-- Behind a call of the giver alone. -/
theorem gis_of {vf vo vl ans : Value} {e : Ending} {G' : Gv} (hU : ∀ x, own16 g vf vo vl x → U x) (h : GP16 g G' vf vo vl ans w e w') : e = .returned ans ∧ GIs w' (fun x => U x ∨ w.heap.size ≤ x) g G' ∧ Only U w w' := by
  obtain ⟨vf', vo', vl', he, r, o, n⟩ := h
  exact ⟨he, ⟨vf', vo', vl', r, fun x hx => (n x hx).imp (hU x) id⟩, o.mono (fun x _ hx => hU x hx)⟩
theorem sendS16 (P : Nat → Prop) (l : List Int) (v : Value) (w : World) (s : GIs w U g G) (hv : Lies w P v (ints l)) (hcap : CapOk v) :
    Calls Tryd.prog 12 #[.pointer (some ⟨g, 0, none⟩), v] w fun e w' => e = .returned (.int .i64 (sendE16 G l)) ∧ GIs w' (fun x => U x ∨ w.heap.size ≤ x) g (sendG16 G l) ∧ Only U w w' := by
  obtain ⟨vf, vo, vl, r, hU⟩ := s
  exact (send16_any P l v w r hv hcap).mono fun _ _ h => gis_of hU h
set_option maxRecDepth 100000 in
set_option maxHeartbeats 400000 in
theorem step16_idle (v : Value) (w : World) (s : GIs w U g G) (h0 : G.st = 0) : Calls Tryd.prog 18 #[.pointer (some ⟨g, 0, none⟩), v] w fun e w' => e = .returned (.tuple #[.bool true, .int .i64 13]) ∧ w = w' := by
  obtain ⟨vf, vo, vl, r, hU⟩ := s
  have KB := Lib.hid (busy16_any w r)
  rw [h0] at KB
  clear r hU h0
  go_enter Tryd.func18, Tryd.ntmps18
  go_wp2_with fail
  refine KB.out.mono ?_
  rintro e w' ⟨rfl, rfl⟩
  go_wp2
  go_ret2
  exact ⟨rfl, rfl⟩
set_option maxRecDepth 100000 in
set_option maxHeartbeats 1000000 in
theorem stepT16 (w : World) (s : Sys16 w U g t p G V E K T) (hA : Acc16 G) (hF : Fit16 G) (hT : TabAt w) (hl : T.length ≤ 65536) (hkl : K.length ≤ 65536) :
    Calls Tryd.prog 18 #[.pointer (some ⟨g, 0, none⟩), tface14 t] w fun e w' => e = .returned (ansV16 (aft16 G (aN16 V E (tch16 G))).2) ∧ Sys16 w' (fun x => U x ∨ w.heap.size ≤ x) g t p ((aft16 G (aN16 V E (tch16 G))).1) (aV16 V (tch16 G)) E (aK16 K (tch16 G)) (T ++ aT16 V E (tch16 G)) ∧ Only U w w' := by
  obtain ⟨vf, vo, vl, a, b, k, v, r, rp, hd, hu1, hu2⟩ := s
  obtain ⟨h1, h15⟩ := hF.st
  have KB := Lib.hid (busy16_any w r)
  have e0 : ((G.st : Int) != 0) = true := by simp; omega
  rw [e0] at KB
  have KA := Lib.hid (accT_any w r hA rp hT hd hl hkl ⟨h1, h15⟩)
  obtain ⟨n, hn⟩ : ∃ n, aN16 V E (tch16 G) = n := ⟨_, rfl⟩
  rw [hn] at KA ⊢
  have c7 := r.row.cell 7
  simp only [gvC, List.getElem?_cons_zero, List.getElem?_cons_succ] at c7
  rw [hA.ins] at c7
  have HF := Lib.hid hF
  have HL := Lib.hid (fun x (hx : own16 g vf vo vl x) => own16_lt r hx)
  have HD := Lib.hid hd
  have HU1 := Lib.hid hu1
  have HU2 := Lib.hid hu2
  have HG := Lib.hid r.row.lt
  clear r rp hd hu1 hu2 hA hF hT hkl hn e0 h1 h15 hl
  unfold tface14 at *
  go_enter Tryd.func18, Tryd.ntmps18
  go_wp2_with fail
  refine KB.out.mono ?_
  rintro e w' ⟨rfl, rfl⟩
  go_wp2_with fail
  refine KA.out.mono ?_
  rintro e w2 ⟨k2, v2, rfl, r2, rp2, o2, hk2, hv2⟩
  have KF := Lib.hid (fol16_any n w2 r2 HF.out)
  unfold ansV16 at KF
  have RP2 := Lib.hid rp2
  have O2 := Lib.hid o2
  have HK2 := Lib.hid hk2
  have HV2 := Lib.hid hv2
  clear r2 rp2 o2 hk2 hv2
  go_wp2_with fail
  refine KF.out.mono ?_
  rintro e w3 ⟨vf3, vo3, vl3, rfl, r3, o3, n3⟩
  have R3 := Lib.hid r3
  have O3 := Lib.hid o3
  have N3 := Lib.hid n3
  clear r3 o3 n3
  go_wp2
  go_ret2
  have hs2 := O2.out.size
  have hout : ∀ x, own14 t p a k2 v2 x ∨ x = b → (own14 t p a k v x ∨ x = b) ∨ w.heap.size ≤ x := by
    rintro x (hx | hx)
    · rcases hx with hx | hx | hx | hx | hx
      · exact .inl (.inl (.inl hx))
      · exact .inl (.inl (.inr (.inl hx)))
      · exact .inl (.inl (.inr (.inr (.inl hx))))
      · rcases HK2.out with h | ⟨y, h, hy⟩
        · exact .inl (.inl (.inr (.inr (.inr (.inl (by rw [← h]; exact hx))))))
        · rw [hx] at h; injection h with h; exact .inr (by omega)
      · rcases HV2.out with h | ⟨y, h, hy⟩
        · exact .inl (.inl (.inr (.inr (.inr (.inr (by rw [← h]; exact hx))))))
        · rw [hx] at h; injection h with h; exact .inr (by omega)
    · exact .inl (.inr hx)
  refine ⟨rfl, ⟨vf3, vo3, vl3, a, b, k2, v2, R3.out, RP2.out.only O3.out (fun x hx hy => ?_), fun x hx hy => ?_, fun x hx => ?_, fun x hx => ?_⟩, (O2.out.mono (fun x _ hx => ?_)).trans (O3.out.mono (fun x _ hx => HU1.out x hx))⟩
  · rcases hout x hx with h | h
    · exact HD.out x hy h
    · have := HL.out x hy; omega
  · have hlt := RP2.out.lt x hy
    rcases N3.out x hx with h | h
    · rcases hout x hy with h' | h'
      · exact HD.out x h h'
      · have := HL.out x h; omega
    · omega
  · rcases N3.out x hx with h | h
    · exact .inl (HU1.out x h)
    · exact .inr (by omega)
  · rcases hout x hx with h | h
    · exact .inl (HU2.out x h)
    · exact .inr h
  · rcases hx with hx | rfl
    · exact HU2.out x (.inl hx)
    · exact HU1.out x (.inl rfl)
end
end

section
open Go.ChangeShapes Go.WideShapes Go.ChangeAt Go.RowKit
/-- What always holds of a giver's numbers. -/
structure Ok16 (G : Gv) : Prop where
  ins : G.ins = false
  B : 0 ≤ G.B ∧ G.B ≤ 65535
  R : okRing (G.R : Int)
  st : G.st ≤ 15
  next : 0 ≤ G.next ∧ G.next ≤ 65535
  tail : 0 ≤ G.tail ∧ G.tail ≤ 65535
  perm : (G.free ++ G.out).Perm (upto16 G.R)
  load : G.load.length ≤ 8
  held : 8 ≤ G.st → G.st ≤ 14 → G.out ≠ []
  word : G.st = 8 → G.sto < G.load.length
  sto : G.sto ≤ G.load.length
  fresh : G.st ≤ 7 → G.sto = 0
  ret : G.st = 7 → 0 < G.ret ∧ G.ret ≤ (G.out.length : Int)
theorem Ok16.len {G : Gv} (h : Ok16 G) : G.free.length + G.out.length = G.R := by
  have := h.perm.length_eq
  rwa [List.length_append, upto16_len] at this
theorem Ok16.R64 {G : Gv} (h : Ok16 G) : 2 ≤ G.R ∧ G.R ≤ 64 := by have := h.R.bd; omega
theorem Ok16.acc {G : Gv} (h : Ok16 G) : Acc16 G :=
  ⟨h.ins, h.B, by have := h.R64; omega, h.next, h.tail, by have := h.len; have := h.R64; omega, fun h1 h2 => h.held h1 (by omega), h.word, h.load⟩
theorem Ok16.fit {G : Gv} (h : Ok16 G) (h0 : G.st ≠ 0) : Fit16 G := by
  have h1 := h.len
  have h2 := h.R64
  exact ⟨⟨by omega, h.st⟩, h2.2, by omega, by omega, by have := h.sto; have := h.load; omega, fun e => by have := h.ret e; omega⟩
theorem ok16_new {B self peer own : Int} {R : Nat} (h : ok16 B (R : Int) self peer own) : Ok16 (new16 B R peer own) :=
  ⟨rfl, ⟨h.2.1.1, by have := h.2.1.2; show B ≤ 65535; omega⟩, h.1, by show 0 ≤ 15; omega, by show (0 : Int) ≤ 0 ∧ (0 : Int) ≤ 65535; omega, by show (0 : Int) ≤ 0 ∧ (0 : Int) ≤ 65535; omega, by show (upto16 R ++ []).Perm (upto16 R); rw [List.append_nil], by show 0 ≤ 8; omega, fun h _ => absurd h (by show ¬ (8 ≤ 0); omega), fun h => absurd h (by show ¬ (0 = 8); omega), Nat.le_refl _, fun _ => rfl, fun h => absurd h (by show ¬ (0 = 7); omega)⟩
theorem ok16_send {G : Gv} (h : Ok16 G) (l : List Int) : Ok16 (sendG16 G l) := by
  unfold sendG16
  split
  · rename_i he
    have h8 : l.length ≤ 8 := by
      unfold sendE16 at he
      split at he
      · cases he
      · split at he
        · cases he
        · omega
    exact ⟨h.ins, h.B, h.R, by show 1 ≤ 15; omega, h.next, h.tail, h.perm, h8, fun h _ => absurd h (by show ¬ (8 ≤ 1); omega), fun h => absurd h (by show ¬ (1 = 8); omega), Nat.zero_le _, fun _ => rfl, fun h => absurd h (by show ¬ (1 = 7); omega)⟩
  · exact h
theorem ok16_idle {G : Gv} (h : Ok16 G) : Ok16 (idle16 G) :=
  ⟨h.ins, h.B, h.R, by show 0 ≤ 15; omega, h.next, h.tail, h.perm, by show 0 ≤ 8; omega, fun h _ => absurd h (by show ¬ (8 ≤ 0); omega), fun h => absurd h (by show ¬ (0 = 8); omega), Nat.le_refl _, fun _ => rfl, fun h => absurd h (by show ¬ (0 = 7); omega)⟩
theorem ok16_wri {G : Gv} (h : Ok16 G) (ho : G.out ≠ []) : Ok16 (wri16 G) := by
  unfold wri16
  have hs := h.sto
  split
  · exact ⟨h.ins, h.B, h.R, by show 9 ≤ 15; omega, h.next, h.tail, h.perm, h.load, fun _ _ => ho, fun h => absurd h (by show ¬ (9 = 8); omega), h.sto, fun h => absurd h (by show ¬ (9 ≤ 7); omega), fun h => absurd h (by show ¬ (9 = 7); omega)⟩
  · rename_i hne
    exact ⟨h.ins, h.B, h.R, by show 8 ≤ 15; omega, h.next, h.tail, h.perm, h.load, fun _ _ => ho, fun _ => by show G.sto < G.load.length; omega, h.sto, fun h => absurd h (by show ¬ (8 ≤ 7); omega), fun h => absurd h (by show ¬ (8 = 7); omega)⟩
theorem ok16_fin {G : Gv} (h : Ok16 G) (n : Int) : Ok16 (fin16 G n) :=
  ⟨h.ins, h.B, h.R, Nat.le_refl _, h.next, h.tail, h.perm, h.load, fun _ h => absurd h (by show ¬ (15 ≤ 14); omega), fun h => absurd h (by show ¬ (15 = 8); omega), h.sto, fun h => absurd h (by show ¬ (15 ≤ 7); omega), fun h => absurd h (by show ¬ (15 = 7); omega)⟩
theorem takB16_yes {G : Gv} (h : takB16 G = true) : ∃ d fs, G.free = d :: fs ∧ takG16 G = { G with free := fs, out := G.out ++ [d] } := by
  unfold takB16 at h
  unfold takG16
  cases hf : G.free with
  | nil => rw [hf] at h; cases h
  | cons d fs => exact ⟨d, fs, rfl, rfl⟩
theorem ok16_tak {G : Gv} (h : Ok16 G) (h6 : G.st ≤ 7) (hb : takB16 G = true) (hst : G.st ≠ 7) : Ok16 (takG16 G) ∧ (takG16 G).out ≠ [] := by
  obtain ⟨d, fs, hf, e⟩ := takB16_yes hb
  rw [e]
  refine ⟨⟨h.ins, h.B, h.R, h.st, h.next, h.tail, ?_, h.load, fun h1 _ => absurd h1 (by show ¬ (8 ≤ G.st); omega), fun h => absurd h (by show ¬ (G.st = 8); omega), h.sto, fun _ => h.fresh h6, fun h => absurd h hst⟩, by simp⟩
  have := h.perm
  rw [hf] at this
  show (fs ++ (G.out ++ [d])).Perm (upto16 G.R)
  refine List.Perm.trans ?_ this
  rw [← List.append_assoc]
  exact List.perm_append_singleton d (fs ++ G.out)
/-- A giver in another state of the first seven. -/
theorem ok16_st {G : Gv} (h : Ok16 G) (n : Nat) (hn : n < 7) (h7 : G.st ≤ 7) : Ok16 { G with st := n } :=
  ⟨h.ins, h.B, h.R, by show n ≤ 15; omega, h.next, h.tail, h.perm, h.load, fun h1 _ => absurd h1 (by show ¬ (8 ≤ n); omega), fun h => absurd h (by show ¬ (n = 8); omega), h.sto, fun _ => h.fresh h7, fun h => absurd h (by show ¬ (n = 7); omega)⟩
theorem ok16_roo {G : Gv} (h : Ok16 { G with st := 6 }) (hr : G.ret ≤ (G.out.length : Int)) : Ok16 (roo16 G) := by
  unfold roo16
  split
  · rename_i h0
    exact ⟨h.ins, h.B, h.R, by show 7 ≤ 15; omega, h.next, h.tail, h.perm, h.load, fun h1 _ => absurd h1 (by show ¬ (8 ≤ 7); omega), fun h => absurd h (by show ¬ (7 = 8); omega), h.sto, fun _ => h.fresh (by show 6 ≤ 7; omega), fun _ => ⟨h0, hr⟩⟩
  · split
    · rename_i hb
      have hk := ok16_tak h (by show 6 ≤ 7; omega) hb (by show 6 ≠ 7; omega)
      have e1 : (takG16 { G with st := 6 }) = { takG16 G with st := 6 } := by
        unfold takG16
        cases hfr : G.free <;> simp [hfr]
      rw [e1] at hk
      exact ok16_wri (G := { takG16 G with st := 6 }) hk.1 hk.2
    · exact ok16_fin h 5
/-- What follows from an access keeps all that. -/
theorem ok16_aft {G : Gv} (h : Ok16 G) (x : Int) : Ok16 (aft16 G x).1 := by
  have h15 := h.st
  unfold aft16
  split
  · rename_i e
    have hs : askS16 G x < 7 := by unfold askS16; split; omega; split <;> omega
    have h1 : Ok16 (askG16 G x) := by
      unfold askG16
      split
      · exact ⟨h.ins, h.B, h.R, h.st, h.next, h.tail, h.perm, h.load, h.held, h.word, h.sto, h.fresh, h.ret⟩
      · exact h
    have e2 : (askG16 G x).st ≤ 7 := by unfold askG16; split <;> (show G.st ≤ 7; omega)
    exact ok16_st h1 _ hs e2
  · split
    · exact ok16_idle ⟨h.ins, h.B, h.R, h.st, by show (0 : Int) ≤ 0 ∧ (0 : Int) ≤ 65535; omega, by show (0 : Int) ≤ 0 ∧ (0 : Int) ≤ 65535; omega, by show (upto16 G.R ++ []).Perm (upto16 G.R); rw [List.append_nil], h.load, fun h1 _ => absurd h1 (by show ¬ (8 ≤ G.st); omega), fun h => absurd h (by show ¬ (G.st = 8); omega), h.sto, h.fresh, fun h => absurd h (by show ¬ (G.st = 7); omega)⟩
    · split
      · split
        · have := ok16_st h 6 (by omega) (by omega)
          exact ⟨this.ins, this.B, this.R, this.st, this.next, this.tail, this.perm, this.load, this.held, this.word, this.sto, this.fresh, this.ret⟩
        · exact ok16_idle h
      · split
        · rename_i e6
          have h6 : Ok16 { G with ret := subW x G.tail, st := 6 } := by
            have := ok16_st h 6 (by omega) (by omega)
            exact ⟨this.ins, this.B, this.R, this.st, this.next, this.tail, this.perm, this.load, this.held, this.word, this.sto, this.fresh, fun h => absurd h (by show ¬ (6 = 7); omega)⟩
          split
          · exact ok16_fin (G := { G with ret := subW x G.tail, st := 6 }) h6 10
          · exact ok16_roo (G := { G with ret := subW x G.tail }) h6 (by show subW x G.tail ≤ (G.out.length : Int); omega)
        · split
          · rename_i e7
            split
            · rename_i hx
              have hr := h.ret e7
              have hl : (G.out.erase x).length = G.out.length - 1 := List.length_erase_of_mem hx
              have hpos : 0 < G.out.length := List.length_pos_of_mem hx
              refine ok16_roo (G := { regG16 G x with ret := G.ret - 1 }) ⟨h.ins, h.B, h.R, by show 6 ≤ 15; omega, h.next, ?_, ?_, h.load, fun h1 _ => absurd h1 (by show ¬ (8 ≤ 6); omega), fun h => absurd h (by show ¬ (6 = 8); omega), h.sto, fun _ => h.fresh (by omega), fun h => absurd h (by show ¬ (6 = 7); omega)⟩ ?_
              · exact addW_bd G.tail 1
              · show (G.free ++ [x] ++ G.out.erase x).Perm (upto16 G.R)
                refine List.Perm.trans ?_ h.perm
                rw [List.append_assoc]
                exact List.Perm.append_left _ (List.perm_cons_erase hx).symm
              · show G.ret - 1 ≤ ((G.out.erase x).length : Int)
                rw [hl]
                omega
            · exact ok16_fin h 10
          · split
            · rename_i e8
              have hw := h.word e8
              exact ok16_wri (G := { G with sto := G.sto + 1, st := 9 }) ⟨h.ins, h.B, h.R, by show 9 ≤ 15; omega, h.next, h.tail, h.perm, h.load, fun _ _ => h.held (by omega) (by omega), fun h => absurd h (by show ¬ (9 = 8); omega), by show G.sto + 1 ≤ G.load.length; omega, fun h => absurd h (by show ¬ (9 ≤ 7); omega), fun h => absurd h (by show ¬ (9 = 7); omega)⟩ (h.held (by omega) (by omega))
            · split
              · have hj : Ok16 (judG16 G x) := by
                  unfold judG16
                  split
                  · exact ⟨h.ins, h.B, h.R, h.st, addW_bd G.next 1, h.tail, h.perm, h.load, h.held, h.word, h.sto, h.fresh, h.ret⟩
                  · exact h
                exact ok16_idle hj
              · exact ⟨h.ins, h.B, h.R, by show G.st + 1 ≤ 15; omega, h.next, h.tail, h.perm, h.load, fun (h1 : 8 ≤ G.st + 1) (h2 : G.st + 1 ≤ 14) => h.held (by omega) (by omega), fun (h1 : G.st + 1 = 8) => by omega, h.sto, fun (h1 : G.st + 1 ≤ 7) => h.fresh (by omega), fun (h1 : G.st + 1 = 7) => by omega⟩
theorem takG16_same (G : Gv) : (takG16 G).load = G.load ∧ (takG16 G).sto = G.sto ∧ (takG16 G).R = G.R ∧ (takG16 G).B = G.B ∧ (takG16 G).peer = G.peer ∧ (takG16 G).own = G.own := by
  unfold takG16
  split <;> exact ⟨rfl, rfl, rfl, rfl, rfl, rfl⟩
/-- The parts that never change. -/
def Same16 (G G' : Gv) : Prop := G'.R = G.R ∧ G'.B = G.B ∧ G'.peer = G.peer ∧ G'.own = G.own
theorem same16_roo (G : Gv) : Same16 G (roo16 G) := by
  unfold roo16
  split
  · exact ⟨rfl, rfl, rfl, rfl⟩
  · split
    · obtain ⟨_, _, a, b, c, d⟩ := takG16_same G
      exact ⟨a, b, c, d⟩
    · exact ⟨rfl, rfl, rfl, rfl⟩
theorem same16_aft (G : Gv) (x : Int) : Same16 G (aft16 G x).1 := by
  unfold aft16
  split
  · unfold askG16; split <;> exact ⟨rfl, rfl, rfl, rfl⟩
  · split
    · exact ⟨rfl, rfl, rfl, rfl⟩
    · split
      · split <;> exact ⟨rfl, rfl, rfl, rfl⟩
      · split
        · split
          · exact ⟨rfl, rfl, rfl, rfl⟩
          · exact same16_roo { G with ret := subW x G.tail }
        · split
          · split
            · exact same16_roo { regG16 G x with ret := G.ret - 1 }
            · exact ⟨rfl, rfl, rfl, rfl⟩
          · split
            · exact ⟨rfl, rfl, rfl, rfl⟩
            · split
              · unfold idle16 judG16; split <;> exact ⟨rfl, rfl, rfl, rfl⟩
              · exact ⟨rfl, rfl, rfl, rfl⟩
theorem same16_send (G : Gv) (l : List Int) : Same16 G (sendG16 G l) := by unfold sendG16; split <;> exact ⟨rfl, rfl, rfl, rfl⟩
theorem Same16.trans {G G1 G2 : Gv} (h : Same16 G G1) (k : Same16 G1 G2) : Same16 G G2 := ⟨k.1.trans h.1, k.2.1.trans h.2.1, k.2.2.1.trans h.2.2.1, k.2.2.2.trans h.2.2.2⟩
end

section
open Go.ChangeShapes Go.WideShapes Go.ChangeAt Go.RowKit
def baseV (B R self peer own : Int) : Value := .agg #[.int .i64 B, .int .i64 R, .int .i64 self, .int .i64 peer, .int .i64 own]
set_option maxRecDepth 100000 in
set_option maxHeartbeats 1000000 in
theorem made16_no {B R self peer own : Int} (h : ¬ ok16 B R self peer own) (w : World) :
    Calls Tryd.prog 6 #[baseV B R self peer own] w fun e w' => e = .returned (.pointer none) ∧ Below w.heap.size w w' := by
  have KN := Lib.hid (fun W => new16_no h W)
  unfold plV at KN
  unfold baseV
  have HB := Lib.hid (below_al w (.cells #[.int .i64 B, .int .i64 R, .int .i64 self, .int .i64 peer, .int .i64 own] 25))
  clear h
  go_enter Tryd.func6, Tryd.ntmps6
  go_wp2_with fail
  refine (KN.out _).mono ?_
  rintro e w' ⟨rfl, hb⟩
  have HB2 := Lib.hid (below_on HB.out hb)
  clear hb
  go_wp2
  go_ret
  exact ⟨rfl, HB2.out⟩
set_option maxRecDepth 100000 in
set_option maxHeartbeats 1000000 in
theorem made16_yes {B self peer own : Int} {r : Nat} (h : ok16 B (r : Int) self peer own) (w : World) :
    Calls Tryd.prog 6 #[baseV B (r : Int) self peer own] w fun e w' => ∃ g, e = .returned (ptr g) ∧ GIs w' (fun x => w.heap.size ≤ x) g (new16 B r peer own) ∧ Below w.heap.size w w' := by
  have KN := Lib.hid (fun W => new16_yes r h W)
  unfold plV at KN
  unfold baseV
  have HB := Lib.hid (below_al w (.cells #[.int .i64 B, .int .i64 (r : Int), .int .i64 self, .int .i64 peer, .int .i64 own] 25))
  clear h
  go_enter Tryd.func6, Tryd.ntmps6
  go_wp2_with fail
  refine (KN.out _).mono ?_
  rintro e w' ⟨g, vf, vo, vl, rfl, hr, hn, hb⟩
  have HB2 := Lib.hid (below_on HB.out hb)
  have hs := HB.out.size
  have HR : Hid (GIs w' (fun x => w.heap.size ≤ x) g (new16 B r peer own)) := Lib.hid ⟨vf, vo, vl, hr, fun x hx => Nat.le_trans hs (hn x hx)⟩
  clear hb hr hn hs
  unfold ptr
  go_wp2
  go_ret
  exact ⟨g, rfl, HR.out, HB2.out⟩
/-- One access of the giver, in numbers: the giver, the words, the kicks, the list. -/
structure Run16 where
  G : Gv
  V : List Int
  K : List Int
  T : List Tch
def rn16 (E : List Int) (s : Run16) : Int := aN16 s.V E (tch16 s.G)
def ra16 (E : List Int) (s : Run16) : Option Int := (aft16 s.G (rn16 E s)).2
def rs16 (E : List Int) (s : Run16) : Run16 := ⟨(aft16 s.G (rn16 E s)).1, aV16 s.V (tch16 s.G), aK16 s.K (tch16 s.G), s.T ++ aT16 s.V E (tch16 s.G)⟩
def it16 (E : List Int) (s : Run16) : Nat → Run16
  | 0 => s
  | n + 1 => rs16 E (it16 E s n)
theorem it16_ok {E : List Int} {s : Run16} (h : Ok16 s.G) : ∀ n, Ok16 (it16 E s n).G
  | 0 => h
  | n + 1 => ok16_aft (it16_ok h n) _
/-- The example. -/
def ex16 : Run16 := ⟨sendG16 (new16 0 2 1 0) [], List.replicate 26 0, [], []⟩
theorem ex16_ok : ok16 0 ((2 : Nat) : Int) 0 1 0 := by decide
theorem ex16_steps : ∀ k, k < 10 → (it16 [0, 0] ex16 k).G.st ≠ 0 ∧ (it16 [0, 0] ex16 k).T.length ≤ 100 ∧ (it16 [0, 0] ex16 k).K.length ≤ 100 := by decide +kernel
theorem ex16_none : ∀ k, k < 9 → ra16 [0, 0] (it16 [0, 0] ex16 k) = none := by decide +kernel
theorem ex16_some : ra16 [0, 0] (it16 [0, 0] ex16 9) = some 0 := by decide +kernel
theorem ex16_end : (it16 [0, 0] ex16 10).T.length = 10 ∧ (it16 [0, 0] ex16 10).G.out = [0] ∧ (it16 [0, 0] ex16 10).G.free.length ≤ 100 := by decide +kernel
end

section
open Go.ChangeShapes Go.WideShapes Go.ChangeAt Go.RowKit
theorem stT16 {U : Nat → Prop} {g t p : Nat} {E : List Int} (s : Run16) (w : World) (h : Sys16 w U g t p s.G s.V E s.K s.T) (ho : Ok16 s.G) (h0 : s.G.st ≠ 0) (hT : TabAt w) (hl : s.T.length ≤ 65536) (hkl : s.K.length ≤ 65536) :
    Calls Tryd.prog 18 #[.pointer (some ⟨g, 0, none⟩), tface14 t] w fun e w' => e = .returned (ansV16 (ra16 E s)) ∧ Sys16 w' (fun x => U x ∨ w.heap.size ≤ x) g t p (rs16 E s).G (rs16 E s).V E (rs16 E s).K (rs16 E s).T ∧ Only U w w' :=
  stepT16 w h ho.acc (ho.fit h0) hT hl hkl
set_option maxRecDepth 100000 in
set_option maxHeartbeats 4000000 in
theorem alive16 (w : World) (hT : TabAt w) :
    Calls Tryd.prog 5 #[] w fun e w' => e = .returned (.bool true) ∧ Below w.heap.size w w' := by
  have hmk : ∀ W : World, (Instr.makeSlice 33 (.int .i64 26) (.int .i64 26)).run Tryd.prog W = .ok (.slice (some ⟨W.heap.size, 0, none⟩) 26 26) (W.alloc (.cells (madeCells #[.int .i64 0] 26) 3)) := fun W => run_make_row' (P := Tryd.prog) 33 3 (.int .i64 0) 8 Tryd.underlying33 int_info rfl .i64 .i64 26 (by omega) (by omega) W
  have HT := Lib.hid hT
  have KM := Lib.hid (made16_yes ex16_ok w)
  unfold baseV at KM
  clear hT
  go_enter Tryd.func5, Tryd.ntmps5
  go_wp2_with fail
  refine KM.out.mono ?_
  rintro e w1 ⟨g, rfl, s1, b1⟩
  have K2 := Lib.hid (sendS16 (fun _ => True) [] (.slice none 0 0) w1 s1 (Lies.nil_ _ _) (by trivial))
  have hse : sendE16 (new16 0 2 1 0) [] = 0 := by decide
  rw [hse] at K2
  have B1 := Lib.hid b1
  clear s1 b1 hse KM
  unfold ptr
  go_wp2_with fail
  refine K2.out.mono ?_
  rintro e w2 ⟨rfl, s2, o2⟩
  have S2 := Lib.hid (s2.weak (U' := fun x => w.heap.size ≤ x) (fun x _ h => by have := B1.out.size; omega))
  have B2 := Lib.hid (Only.below B1.out o2 B1.out.size (fun x hx h => by omega))
  clear s2 o2 K2 B1
  go_wp2_with fail
  have hz := Row.new w2 3 (madeCells #[Value.int .i64 0] 26)
  rw [ints_zeros] at hz
  have hz2 := hz.below (below_al (w2.alloc (.cells (madeCells #[Value.int .i64 0] 26) 3)) (.cells #[.int .i64 0, .int .i64 0] 3))
  have he2 := Row.new (w2.alloc (.cells (madeCells #[Value.int .i64 0] 26) 3)) 3 #[.int .i64 0, .int .i64 0]
  rw [size_al] at he2
  have hb3 := below_on (below_al w2 (.cells (madeCells #[Value.int .i64 0] 26) 3)) (below_al (w2.alloc (.cells (madeCells #[Value.int .i64 0] 26) 3)) (.cells #[.int .i64 0, .int .i64 0] 3))
  refine (ofWords14_any (fun _ => True) (fun _ => True) (List.replicate 26 0) [0, 0] _ _ _ (Lies.of_row hz2 trivial 26) (Lies.of_row he2 trivial 2) (by simp) (by simp)).mono ?_
  rintro e w4 ⟨p, a, b, rfl, rp, ha, hp, hb4⟩
  have e1 : mod14 (List.replicate 26 0) = List.replicate 26 0 := by decide
  have e2 : mod14 [0, 0] = [0, 0] := by decide
  rw [e1, e2] at rp
  have B4 := Lib.hid (below_on hb3 hb4)
  have RP := Lib.hid rp
  have hab : w2.heap.size ≤ a ∧ w2.heap.size ≤ p := by have := hb3.size; omega
  have HAB := Lib.hid hab
  clear hz hz2 he2 hb3 hb4 rp ha hp hab e1 e2 hmk
  unfold ptr
  go_wp2_with fail
  refine (traced14_any p w4).mono ?_
  rintro e w5 ⟨t, rfl, rt, ht, hb5⟩
  have hab := RP.out.ne
  have hsys := sys16_of S2.out (below_on B4.out hb5) (PtAt.mk (RP.out.below hb5) rt) (fun x hx => by
    have := B4.out.size
    have := HAB.out
    rcases hx with hx | rfl
    · rcases hx with rfl | rfl | rfl | hx | hx
      · omega
      · omega
      · omega
      · cases hx
      · cases hx
    · omega)
  have B5 := Lib.hid (below_on (below_on B2.out B4.out) hb5)
  have S5 : Hid (Sys16 w5 (fun x => w.heap.size ≤ x) g t p (it16 [0, 0] ex16 0).G (it16 [0, 0] ex16 0).V [0, 0] (it16 [0, 0] ex16 0).K (it16 [0, 0] ex16 0).T) := Lib.hid (hsys.weak (fun x _ h => by have := B2.out.size; omega))
  clear hsys rt ht hb5 B4 RP HAB S2 B2 hab
  unfold ptr
  go_wp2
  go_loopw [3] (fun iv wr => ∃ k : Nat, k ≤ 9 ∧ iv = .int .i64 ((k : Int) + 1) ∧ Hid (Sys16 wr (fun x => w.heap.size ≤ x) g t p (it16 [0, 0] ex16 k).G (it16 [0, 0] ex16 k).V [0, 0] (it16 [0, 0] ex16 k).K (it16 [0, 0] ex16 k).T) ∧ Hid (Below w.heap.size w wr)) (fun iv _ => 11 - (intOf iv).toNat)
  case atStart => exact ⟨0, Nat.zero_le _, rfl, S5, B5⟩
  case round =>
    clear S5 B5
    obtain ⟨k, hk, rfl, SR, BR⟩ := hrel
    have hst := ex16_steps k (by omega)
    have KS := Lib.hid (stT16 (it16 [0, 0] ex16 k) wr SR.out (it16_ok (ok16_send (ok16_new ex16_ok) []) k) hst.1 (HT.out.below BR.out) (by omega) (by omega))
    unfold tface14 at KS
    clear hst
    by_cases hlt : k < 9
    · rw [ex16_none k hlt] at KS
      unfold ansV16 at KS
      have h9 : (k : Int) + 1 ≤ 9 := by omega
      go_wp2_with fail
      refine KS.out.mono ?_
      rintro e w6 ⟨rfl, s6, o6⟩
      have S6 : Hid (Sys16 w6 (fun x => w.heap.size ≤ x) g t p (it16 [0, 0] ex16 (k + 1)).G (it16 [0, 0] ex16 (k + 1)).V [0, 0] (it16 [0, 0] ex16 (k + 1)).K (it16 [0, 0] ex16 (k + 1)).T) := Lib.hid (Sys16.weak s6 (fun x _ h => by have := BR.out.size; omega))
      have B6 := Lib.hid (Only.below BR.out o6 BR.out.size (fun x hx h => by omega))
      clear s6 o6 KS SR BR
      go_wp2
      go_roundw
      case rel => exact ⟨k + 1, by omega, by go_num, S6, B6⟩
      case measure => simp [intOf]; omega
    · obtain rfl : k = 9 := by omega
      rw [ex16_some] at KS
      unfold ansV16 at KS
      go_wp2_with fail
      refine KS.out.mono ?_
      rintro e w6 ⟨rfl, s6, o6⟩
      have S6 : Hid (Sys16 w6 (fun x => w.heap.size ≤ x) g t p (it16 [0, 0] ex16 10).G (it16 [0, 0] ex16 10).V [0, 0] (it16 [0, 0] ex16 10).K (it16 [0, 0] ex16 10).T) := Lib.hid (Sys16.weak s6 (fun x _ h => by have := BR.out.size; omega))
      have B6 := Lib.hid (Only.below BR.out o6 BR.out.size (fun x hx h => by omega))
      clear s6 o6 KS SR BR
      obtain ⟨t10, o10, -⟩ := ex16_end
      obtain ⟨s10, hs10⟩ : ∃ s, it16 [0, 0] ex16 10 = s := ⟨_, rfl⟩
      rw [hs10] at S6 t10 o10
      obtain ⟨vf, vo, vl, a, b, k, v, rg, rp, -, -, -⟩ := S6.out
      have KT := Lib.hid (touches14_any w6 rp.trace (by omega))
      have RG := Lib.hid rg
      have T10 := Lib.hid t10
      have O10 := Lib.hid o10
      clear rp rg t10 o10 hs10 S6
      go_wp2_with fail
      refine KT.out.mono ?_
      rintro e w7 ⟨v7, rfl, own7, b7⟩
      rw [T10.out] at own7
      obtain ⟨A7, c7, rfl⟩ := own_open14 own7
      have KO := Lib.hid (out16_any w7 (RG.out.below b7) (by rw [O10.out]; decide))
      have B7 := Lib.hid (below_on (show Below w.heap.size w w7 from B6.out.trans (b7.mono B6.out.size)) (Below.refl _ _))
      clear own7 b7 KT
      go_wp2_with fail
      refine KO.out.mono ?_
      rintro e w8 ⟨v8, rfl, own8, b8⟩
      rw [O10.out] at own8
      have L8 := Lib.hid (Lies.of_own own8)
      obtain ⟨A8, c8, rfl⟩ := own_open14 own8
      have B8 := Lib.hid (below_on B7.out b8)
      clear own8 b8 KO
      go_wp2_with fail
      refine (rsame_yes _ (fun _ => True) _ _ [0] _ (L8.out.below (below_al _ _)) (Lies.of_row (Row.new w8 3 #[.int .i64 0]) trivial 1) (by decide)).mono ?_
      rintro e w9 ⟨rfl, b9⟩
      have B9 := Lib.hid (below_on (below_on B8.out (below_al w8 (.cells #[.int .i64 0] 3))) b9)
      clear b9
      go_wp2
      go_ret
      exact ⟨rfl, B9.out⟩
end

section
open Go.ChangeShapes Go.WideShapes Go.ChangeAt Go.RowKit
/-- The reference's giver in numbers. -/
structure Rv where
  B : Int
  R : Int
  self : Int
  peer : Int
  own : Int
  known : Int
  linked : Bool
  free : List Int
  out : List Int
  next : Int
  tail : Int
  at_ : Int
  i : Int
  left : Int
  ans : Int
  d : Int
  load : List Int
/-- Its cells; the value. -/
def rvC (G : Rv) (vf vo vl : Value) : List Value :=
  [.int .i64 G.B, .int .i64 G.R, .int .i64 G.self, .int .i64 G.peer, .int .i64 G.own, .int .i64 G.known, .bool G.linked, vf, vo, .int .i64 G.next, .int .i64 G.tail, .int .i64 G.at_, .int .i64 G.i, .int .i64 G.left, .int .i64 G.ans, .int .i64 G.d, vl]
def rvV (G : Rv) (vf vo vl : Value) : Value := .agg (rvC G vf vo vl).toArray
/-- Its three lists lie in memory. -/
structure RvL (w : World) (P : Nat → Prop) (G : Rv) (vf vo vl : Value) : Prop where
  free : Lies w P vf (ints G.free)
  out : Lies w P vo (ints G.out)
  load : Lies w P vl (ints G.load)
  cf : CapOk vf
  co : CapOk vo
  cl : CapOk vl
theorem RvL.below {w w' : World} {P : Nat → Prop} {G : Rv} {vf vo vl : Value} (r : RvL w P G vf vo vl) (hb : Below w.heap.size w w') : RvL w' P G vf vo vl :=
  ⟨r.free.below hb, r.out.below hb, r.load.below hb, r.cf, r.co, r.cl⟩
section
variable {Af Ao Al : Option Addr} {nf cf no co nl cl : Nat}
set_option maxRecDepth 100000 in
set_option maxHeartbeats 1000000 in
theorem rat16_any (G : Rv) (f s i : Int) (hB : 0 ≤ G.B ∧ G.B ≤ 100000) (hR : 0 ≤ G.R ∧ G.R ≤ 64) (w : World) :
    Calls Tryd.prog 49 #[rvV G (.slice Af nf cf) (.slice Ao no co) (.slice Al nl cl), .int .i64 f, .int .i64 s, .int .i64 i] w fun e w' => e = .returned (.int .i64 (atV13 G.B G.R f s i)) ∧ Below w.heap.size w w' := by
  have KA := Lib.hid (fun W => rat13_any G.B G.R f s i hB hR W)
  clear hB hR
  unfold rvV rvC
  go_enter Tryd.func49, Tryd.ntmps49
  go_wp2_with fail
  refine (KA.out _).mono ?_
  rintro e w' ⟨rfl, rfl⟩
  go_wp2
  go_ret
  exact ⟨rfl, by go_grown⟩
/-- The new variable's cells. -/
def rvZ : List Value := rvC ⟨0, 0, 0, 0, 0, 0, false, [], [], 0, 0, 0, 0, 0, 0, 0, []⟩ (.slice none 0 0) (.slice none 0 0) (.slice none 0 0)
theorem rv_size : (Tryd.prog.info? 35).map (·.size) = some 17 := by kernel_rfl
theorem rv_zero : (Tryd.prog.info? 35).map (·.zero) = some (some (.agg rvZ.toArray)) := by kernel_rfl
theorem rv_struct : isStruct Tryd.prog 35 = true := by kernel_rfl
theorem rv_len (G : Rv) (vf vo vl : Value) : (rvC G vf vo vl).length = 17 := rfl
theorem rv_one (G : Rv) : ∀ u ∈ rvC G (.slice Af nf cf) (.slice Ao no co) (.slice Al nl cl), u.oneCell' = true := by
  intro u hu
  simp [rvC] at hu
  rcases hu with rfl | rfl | rfl | rfl | rfl | rfl | rfl | rfl | rfl | rfl | rfl | rfl | rfl | rfl | rfl | rfl | rfl <;> rfl
theorem rv_results {fn : Func} {s : Tmp} (h : fn.results = #[.cell s 35]) {tmps : Array Value} {w : World} {b : Nat} (hs : tmps.getD s undef = .pointer (some ⟨b, 0, none⟩)) {G : Rv} {vf vo vl : Value} (hg : Row w b 35 (rvC G vf vo vl)) :
    (results fn tmps).run Tryd.prog w = .ok (rvV G vf vo vl) w := by
  have hl := run_loadVar_cells (P := Tryd.prog) w 35 ⟨b, 0, none⟩ (rvC G vf vo vl) rv_struct (rv_size.trans (congrArg some (rv_len G vf vo vl).symm)) (fun j u hu => by rw [Addr.add_lit, Nat.zero_add, hg.cell]; exact hu)
  have hs' : tmps[s]?.getD undef = .pointer (some ⟨b, 0, none⟩) := by simpa using hs
  simp [results, h, hs', hl, asAddr, rvV]
set_option maxRecDepth 100000 in
set_option maxHeartbeats 1000000 in
theorem rover_any (G : Rv) (x : Int) (w : World) :
    Calls Tryd.prog 51 #[rvV G (.slice Af nf cf) (.slice Ao no co) (.slice Al nl cl), .int .i64 x] w fun e w' => e = .returned (rvV { G with at_ := 15, ans := x } (.slice Af nf cf) (.slice Ao no co) (.slice Al nl cl)) ∧ Below w.heap.size w w' := by
  have SZ : ∀ (H : Rv) (a b c : Value), (Tryd.prog.info? 35).map (·.size) = some (rvC H a b c).length := fun H a b c => rv_size.trans (congrArg some (rv_len H a b c).symm)
  have HSZ := Lib.hid SZ
  clear SZ
  have HONE := Lib.hid (rv_one (Af := Af) (nf := nf) (cf := cf) (Ao := Ao) (no := no) (co := co) (Al := Al) (nl := nl) (cl := cl))
  unfold rvV
  go_enter Tryd.func51, Tryd.ntmps51
  go_wp2_with (first
    | ((with_reducible refine box_walk rfl 35 (.tmp 0) rfl (rvC G (.slice Af nf cf) (.slice Ao no co) (.slice Al nl cl)) rfl ?_); intro w1 r1 b1 z1; have R1 := Lib.hid r1; have B1 := Lib.hid b1; have hlt1 := r1.lt; clear r1 b1 z1)
    | ((with_reducible refine alloc_walk (o := ⟨some 4, _, _, _, _, _⟩) rfl 35 rfl _ rv_zero ?_); go_must (intro w2 r2 b2 z2; have R2 := Lib.hid (R1.out.below b2); have Q2 := Lib.hid r2; have B2 := Lib.hid (below_on B1.out b2); have c11 := R2.out.cell 11; have c14 := R2.out.cell 14; have f11 := R2.out.soft 11; have f14 := R2.out.soft 14; simp only [rvC, List.getElem?_cons_zero, List.getElem?_cons_succ] at c11 c14; have R3 : Hid (Row ((w2.setCell ⟨w.heap.size, 11, none⟩ (.int .i64 15)).setCell ⟨w.heap.size, 14, none⟩ (.int .i64 x)) w.heap.size 35 (rvC { G with at_ := 15, ans := x } (.slice Af nf cf) (.slice Ao no co) (.slice Al nl cl))) := Lib.hid ((R2.out.put 11 (.int .i64 15)).put 14 (.int .i64 x)); have Q3 : Hid (Row ((w2.setCell ⟨w.heap.size, 11, none⟩ (.int .i64 15)).setCell ⟨w.heap.size, 14, none⟩ (.int .i64 x)) w1.heap.size 35 rvZ) := Lib.hid ((Q2.out.far (p := ⟨w.heap.size, 11, none⟩) (Nat.ne_of_gt hlt1) _).far (p := ⟨w.heap.size, 14, none⟩) (Nat.ne_of_gt hlt1) _); have B3 := Lib.hid ((B2.out.setCell (p := ⟨w.heap.size, 11, none⟩) (Nat.le_refl _) (.int .i64 15)).setCell (p := ⟨w.heap.size, 14, none⟩) (Nat.le_refl _) (.int .i64 x)); clear r2 b2 z2))
    | (with_reducible refine loadRow_walk rfl 35 (.tmp 2) rfl w.heap.size rfl (rvC { G with at_ := 15, ans := x } (.slice Af nf cf) (.slice Ao no co) (.slice Al nl cl)) rv_struct (HSZ.out _ _ _ _) 35 R3.out ?_)
    | ((with_reducible refine storeRow_walk rfl 35 (.tmp 4) (.tmp 8) rfl w1.heap.size rfl (rvC { G with at_ := 15, ans := x } (.slice Af nf cf) (.slice Ao no co) (.slice Al nl cl)) rfl (HSZ.out _ _ _ _) 35 rvZ Q3.out rfl (HONE.out _) ?_); intro w4 r4 o4 z4; have R4 := Lib.hid r4; have B4 := Lib.hid (Only.below B3.out o4 B3.out.size (fun k hk e => by subst e; omega)); clear r4 o4 z4))
  exact bodyPost_ret (rv_results Tryd.results51 rfl R4.out) rfl ⟨rfl, B4.out⟩
end
end

section
open Go.ChangeShapes Go.WideShapes Go.ChangeAt Go.RowKit
section
variable {Af Ao Al : Option Addr} {nf cf no co nl cl : Nat}
set_option maxRecDepth 100000 in
set_option maxHeartbeats 1000000 in
theorem rroomy_back (G : Rv) (w : World) (h : 0 < G.left) :
    Calls Tryd.prog 52 #[rvV G (.slice Af nf cf) (.slice Ao no co) (.slice Al nl cl)] w fun e w' => e = .returned (rvV { G with at_ := 7 } (.slice Af nf cf) (.slice Ao no co) (.slice Al nl cl)) ∧ Below w.heap.size w w' := by
  have HSZ := Lib.hid (fun (H : Rv) (a b c : Value) => (rv_size.trans (congrArg some (rv_len H a b c).symm)))
  have HONE := Lib.hid (rv_one (Af := Af) (nf := nf) (cf := cf) (Ao := Ao) (no := no) (co := co) (Al := Al) (nl := nl) (cl := cl))
  have g1 : decide ((0 : Int) < G.left) = true := decide_eq_true h
  clear h
  unfold rvV
  go_enter Tryd.func52, Tryd.ntmps52
  go_wp2_with (first
    | ((with_reducible refine box_walk rfl 35 (.tmp 0) rfl (rvC G (.slice Af nf cf) (.slice Ao no co) (.slice Al nl cl)) rfl ?_); intro w1 r1 b1 z1; have R1 := Lib.hid r1; have B1 := Lib.hid b1; have hlt1 := r1.lt; clear r1 b1 z1)
    | ((with_reducible refine alloc_walk (o := ⟨some 2, _, _, _, _, _⟩) rfl 35 rfl _ rv_zero ?_); go_must (intro w2 r2 b2 z2; have R2 := Lib.hid (R1.out.below b2); have Q2 := Lib.hid r2; have B2 := Lib.hid (below_on B1.out b2); have c11 := R2.out.cell 11; have f11 := R2.out.soft 11; have c13 := R2.out.cell 13; have f13 := R2.out.soft 13; simp only [rvC, List.getElem?_cons_zero, List.getElem?_cons_succ] at c11 c13; have R3 : Hid (Row (w2.setCell ⟨w.heap.size, 11, none⟩ (.int .i64 7)) w.heap.size 35 (rvC { G with at_ := 7 } (.slice Af nf cf) (.slice Ao no co) (.slice Al nl cl))) := Lib.hid (R2.out.put 11 (.int .i64 7)); have Q3 : Hid (Row (w2.setCell ⟨w.heap.size, 11, none⟩ (.int .i64 7)) w1.heap.size 35 rvZ) := Lib.hid (Q2.out.far (p := ⟨w.heap.size, 11, none⟩) (Nat.ne_of_gt hlt1) _); have B3 := Lib.hid (B2.out.setCell (p := ⟨w.heap.size, 11, none⟩) (Nat.le_refl _) (.int .i64 7)); clear r2 b2 z2))
    | (with_reducible refine loadRow_walk rfl 35 (.tmp 1) rfl w.heap.size rfl (rvC { G with at_ := 7 } (.slice Af nf cf) (.slice Ao no co) (.slice Al nl cl)) rv_struct (HSZ.out _ _ _ _) 35 R3.out ?_)
    | ((with_reducible refine storeRow_walk rfl 35 (.tmp 2) (.tmp 8) rfl w1.heap.size rfl (rvC { G with at_ := 7 } (.slice Af nf cf) (.slice Ao no co) (.slice Al nl cl)) rfl (HSZ.out _ _ _ _) 35 rvZ Q3.out rfl (HONE.out _) ?_); intro w4 r4 o4 z4; have R4 := Lib.hid r4; have B4 := Lib.hid (Only.below B3.out o4 B3.out.size (fun k hk e => by subst e; omega)); clear r4 o4 z4))
  exact bodyPost_ret (rv_results Tryd.results52 rfl R4.out) rfl ⟨rfl, B4.out⟩
theorem rv_results2 {fn : Func} {s q : Tmp} (h : fn.results = #[.cell s 35, .tmp q]) {tmps : Array Value} {w : World} {b : Nat} (hs : tmps.getD s undef = .pointer (some ⟨b, 0, none⟩)) {G : Rv} {vf vo vl u : Value} (hq : tmps.getD q undef = u) (hg : Row w b 35 (rvC G vf vo vl)) :
    (results fn tmps).run Tryd.prog w = .ok (.tuple #[rvV G vf vo vl, u]) w := by
  have hl := run_loadVar_cells (P := Tryd.prog) w 35 ⟨b, 0, none⟩ (rvC G vf vo vl) rv_struct (rv_size.trans (congrArg some (rv_len G vf vo vl).symm)) (fun j u hu => by rw [Addr.add_lit, Nat.zero_add, hg.cell]; exact hu)
  have hs' : tmps[s]?.getD undef = .pointer (some ⟨b, 0, none⟩) := by simpa using hs
  have hq' : tmps[q]?.getD undef = u := by simpa using hq
  simp [results, h, hs', hq', hl, asAddr, rvV]
set_option maxRecDepth 100000 in
set_option maxHeartbeats 1000000 in
theorem raft_ask (G : Rv) (x : Int) (w : World) (h : G.at_ = 1) (hx : x ≠ G.known) :
    Calls Tryd.prog 37 #[rvV G (.slice Af nf cf) (.slice Ao no co) (.slice Al nl cl), .int .i64 x] w fun e w' => e = .returned (.tuple #[rvV { G with known := x, at_ := 2 } (.slice Af nf cf) (.slice Ao no co) (.slice Al nl cl), .int .i64 (-1)]) ∧ Below w.heap.size w w' := by
  have HSZ := Lib.hid (fun (H : Rv) (a b c : Value) => (rv_size.trans (congrArg some (rv_len H a b c).symm)))
  have HONE := Lib.hid (rv_one (Af := Af) (nf := nf) (cf := cf) (Ao := Ao) (no := no) (co := co) (Al := Al) (nl := nl) (cl := cl))
  have H1 := Lib.hid h
  have g1 : (x != G.known) = true := by simpa using hx
  clear h hx
  unfold rvV
  go_enter Tryd.func37, Tryd.ntmps37
  go_wp2_with (first
    | ((with_reducible refine box_walk rfl 35 (.tmp 0) rfl (rvC G (.slice Af nf cf) (.slice Ao no co) (.slice Al nl cl)) rfl ?_); intro w1 r1 b1 z1; have R1 := Lib.hid r1; have B1 := Lib.hid b1; have hlt1 := r1.lt; clear r1 b1 z1)
    | ((with_reducible refine alloc_walk (o := ⟨some 4, _, _, _, _, _⟩) rfl 35 rfl _ rv_zero ?_); go_must (intro w2 r2 b2 z2; have R2 := Lib.hid (R1.out.below b2); have Q2 := Lib.hid r2; have B2 := Lib.hid (below_on B1.out b2); have c5 := R2.out.cell 5; have f5 := R2.out.soft 5; have c11 := R2.out.cell 11; have f11 := R2.out.soft 11; simp only [rvC, List.getElem?_cons_zero, List.getElem?_cons_succ] at c5 c11; have R3 : Hid (Row ((w2.setCell ⟨w.heap.size, 5, none⟩ (.int .i64 x)).setCell ⟨w.heap.size, 11, none⟩ (.int .i64 2)) w.heap.size 35 (rvC { G with known := x, at_ := 2 } (.slice Af nf cf) (.slice Ao no co) (.slice Al nl cl))) := Lib.hid ((R2.out.put 5 (.int .i64 x)).put 11 (.int .i64 2)); have Q3 : Hid (Row ((w2.setCell ⟨w.heap.size, 5, none⟩ (.int .i64 x)).setCell ⟨w.heap.size, 11, none⟩ (.int .i64 2)) w1.heap.size 35 rvZ) := Lib.hid ((Q2.out.far (p := ⟨w.heap.size, 5, none⟩) (Nat.ne_of_gt hlt1) _).far (p := ⟨w.heap.size, 11, none⟩) (Nat.ne_of_gt hlt1) _); have B3 := Lib.hid ((B2.out.setCell (p := ⟨w.heap.size, 5, none⟩) (Nat.le_refl _) (.int .i64 x)).setCell (p := ⟨w.heap.size, 11, none⟩) (Nat.le_refl _) (.int .i64 2)); rw [H1.out] at c11; clear r2 b2 z2))
    | (with_reducible refine loadRow_walk rfl 35 (.tmp 2) rfl w.heap.size rfl (rvC { G with known := x, at_ := 2 } (.slice Af nf cf) (.slice Ao no co) (.slice Al nl cl)) rv_struct (HSZ.out _ _ _ _) 35 R3.out ?_)
    | ((with_reducible refine storeRow_walk rfl 35 (.tmp 4) (.tmp 24) rfl w1.heap.size rfl (rvC { G with known := x, at_ := 2 } (.slice Af nf cf) (.slice Ao no co) (.slice Al nl cl)) rfl (HSZ.out _ _ _ _) 35 rvZ Q3.out rfl (HONE.out _) ?_); intro w4 r4 o4 z4; have R4 := Lib.hid r4; have B4 := Lib.hid (Only.below B3.out o4 B3.out.size (fun k hk e => by subst e; omega)); clear r4 o4 z4))
  exact bodyPost_ret (rv_results2 Tryd.results37 rfl rfl R4.out) rfl ⟨rfl, B4.out⟩
set_option maxRecDepth 100000 in
set_option maxHeartbeats 1000000 in
theorem raft_ask_link (G : Rv) (x : Int) (w : World) (h : G.at_ = 1) (hx : x = G.known) (hl : G.linked = false) :
    Calls Tryd.prog 37 #[rvV G (.slice Af nf cf) (.slice Ao no co) (.slice Al nl cl), .int .i64 x] w fun e w' => e = .returned (.tuple #[rvV { G with at_ := 5 } (.slice Af nf cf) (.slice Ao no co) (.slice Al nl cl), .int .i64 (-1)]) ∧ Below w.heap.size w w' := by
  have HSZ := Lib.hid (fun (H : Rv) (a b c : Value) => (rv_size.trans (congrArg some (rv_len H a b c).symm)))
  have HONE := Lib.hid (rv_one (Af := Af) (nf := nf) (cf := cf) (Ao := Ao) (no := no) (co := co) (Al := Al) (nl := nl) (cl := cl))
  have H1 := Lib.hid h
  have g1 : (x != G.known) = false := by simpa using hx
  have H2 := Lib.hid hl
  clear h hx hl
  unfold rvV
  go_enter Tryd.func37, Tryd.ntmps37
  go_wp2_with (first
    | ((with_reducible refine box_walk rfl 35 (.tmp 0) rfl (rvC G (.slice Af nf cf) (.slice Ao no co) (.slice Al nl cl)) rfl ?_); intro w1 r1 b1 z1; have R1 := Lib.hid r1; have B1 := Lib.hid b1; have hlt1 := r1.lt; clear r1 b1 z1)
    | ((with_reducible refine alloc_walk (o := ⟨some 4, _, _, _, _, _⟩) rfl 35 rfl _ rv_zero ?_); go_must (intro w2 r2 b2 z2; have R2 := Lib.hid (R1.out.below b2); have Q2 := Lib.hid r2; have B2 := Lib.hid (below_on B1.out b2); have c5 := R2.out.cell 5; have f5 := R2.out.soft 5; have c6 := R2.out.cell 6; have f6 := R2.out.soft 6; have c11 := R2.out.cell 11; have f11 := R2.out.soft 11; simp only [rvC, List.getElem?_cons_zero, List.getElem?_cons_succ] at c5 c6 c11; have R3 : Hid (Row (w2.setCell ⟨w.heap.size, 11, none⟩ (.int .i64 5)) w.heap.size 35 (rvC { G with at_ := 5 } (.slice Af nf cf) (.slice Ao no co) (.slice Al nl cl))) := Lib.hid (R2.out.put 11 (.int .i64 5)); have Q3 : Hid (Row (w2.setCell ⟨w.heap.size, 11, none⟩ (.int .i64 5)) w1.heap.size 35 rvZ) := Lib.hid (Q2.out.far (p := ⟨w.heap.size, 11, none⟩) (Nat.ne_of_gt hlt1) _); have B3 := Lib.hid (B2.out.setCell (p := ⟨w.heap.size, 11, none⟩) (Nat.le_refl _) (.int .i64 5)); rw [H1.out] at c11; rw [H2.out] at c6; clear r2 b2 z2))
    | (with_reducible refine loadRow_walk rfl 35 (.tmp 2) rfl w.heap.size rfl (rvC { G with at_ := 5 } (.slice Af nf cf) (.slice Ao no co) (.slice Al nl cl)) rv_struct (HSZ.out _ _ _ _) 35 R3.out ?_)
    | ((with_reducible refine storeRow_walk rfl 35 (.tmp 4) (.tmp 24) rfl w1.heap.size rfl (rvC { G with at_ := 5 } (.slice Af nf cf) (.slice Ao no co) (.slice Al nl cl)) rfl (HSZ.out _ _ _ _) 35 rvZ Q3.out rfl (HONE.out _) ?_); intro w4 r4 o4 z4; have R4 := Lib.hid r4; have B4 := Lib.hid (Only.below B3.out o4 B3.out.size (fun k hk e => by subst e; omega)); clear r4 o4 z4))
  exact bodyPost_ret (rv_results2 Tryd.results37 rfl rfl R4.out) rfl ⟨rfl, B4.out⟩
set_option maxRecDepth 100000 in
set_option maxHeartbeats 1000000 in
theorem raft_ask_room (G : Rv) (x : Int) (w : World) (h : G.at_ = 1) (hx : x = G.known) (hl : G.linked = true) :
    Calls Tryd.prog 37 #[rvV G (.slice Af nf cf) (.slice Ao no co) (.slice Al nl cl), .int .i64 x] w fun e w' => e = .returned (.tuple #[rvV { G with at_ := 6 } (.slice Af nf cf) (.slice Ao no co) (.slice Al nl cl), .int .i64 (-1)]) ∧ Below w.heap.size w w' := by
  have HSZ := Lib.hid (fun (H : Rv) (a b c : Value) => (rv_size.trans (congrArg some (rv_len H a b c).symm)))
  have HONE := Lib.hid (rv_one (Af := Af) (nf := nf) (cf := cf) (Ao := Ao) (no := no) (co := co) (Al := Al) (nl := nl) (cl := cl))
  have H1 := Lib.hid h
  have g1 : (x != G.known) = false := by simpa using hx
  have H2 := Lib.hid hl
  clear h hx hl
  unfold rvV
  go_enter Tryd.func37, Tryd.ntmps37
  go_wp2_with (first
    | ((with_reducible refine box_walk rfl 35 (.tmp 0) rfl (rvC G (.slice Af nf cf) (.slice Ao no co) (.slice Al nl cl)) rfl ?_); intro w1 r1 b1 z1; have R1 := Lib.hid r1; have B1 := Lib.hid b1; have hlt1 := r1.lt; clear r1 b1 z1)
    | ((with_reducible refine alloc_walk (o := ⟨some 4, _, _, _, _, _⟩) rfl 35 rfl _ rv_zero ?_); go_must (intro w2 r2 b2 z2; have R2 := Lib.hid (R1.out.below b2); have Q2 := Lib.hid r2; have B2 := Lib.hid (below_on B1.out b2); have c5 := R2.out.cell 5; have f5 := R2.out.soft 5; have c6 := R2.out.cell 6; have f6 := R2.out.soft 6; have c11 := R2.out.cell 11; have f11 := R2.out.soft 11; simp only [rvC, List.getElem?_cons_zero, List.getElem?_cons_succ] at c5 c6 c11; have R3 : Hid (Row (w2.setCell ⟨w.heap.size, 11, none⟩ (.int .i64 6)) w.heap.size 35 (rvC { G with at_ := 6 } (.slice Af nf cf) (.slice Ao no co) (.slice Al nl cl))) := Lib.hid (R2.out.put 11 (.int .i64 6)); have Q3 : Hid (Row (w2.setCell ⟨w.heap.size, 11, none⟩ (.int .i64 6)) w1.heap.size 35 rvZ) := Lib.hid (Q2.out.far (p := ⟨w.heap.size, 11, none⟩) (Nat.ne_of_gt hlt1) _); have B3 := Lib.hid (B2.out.setCell (p := ⟨w.heap.size, 11, none⟩) (Nat.le_refl _) (.int .i64 6)); rw [H1.out] at c11; rw [H2.out] at c6; clear r2 b2 z2))
    | (with_reducible refine loadRow_walk rfl 35 (.tmp 2) rfl w.heap.size rfl (rvC { G with at_ := 6 } (.slice Af nf cf) (.slice Ao no co) (.slice Al nl cl)) rv_struct (HSZ.out _ _ _ _) 35 R3.out ?_)
    | ((with_reducible refine storeRow_walk rfl 35 (.tmp 4) (.tmp 24) rfl w1.heap.size rfl (rvC { G with at_ := 6 } (.slice Af nf cf) (.slice Ao no co) (.slice Al nl cl)) rfl (HSZ.out _ _ _ _) 35 rvZ Q3.out rfl (HONE.out _) ?_); intro w4 r4 o4 z4; have R4 := Lib.hid r4; have B4 := Lib.hid (Only.below B3.out o4 B3.out.size (fun k hk e => by subst e; omega)); clear r4 o4 z4))
  exact bodyPost_ret (rv_results2 Tryd.results37 rfl rfl R4.out) rfl ⟨rfl, B4.out⟩
set_option maxRecDepth 100000 in
set_option maxHeartbeats 1000000 in
theorem raft_next (G : Rv) (x : Int) (w : World) (h : 0 ≤ G.at_ ∧ G.at_ ≤ 15) (n1 : (G.at_ == 1) = false) (n4 : (G.at_ == 4) = false) (n5 : (G.at_ == 5) = false) (n6 : (G.at_ == 6) = false) (n7 : (G.at_ == 7) = false) (n8 : (G.at_ == 8) = false) (n14 : (G.at_ == 14) = false) (n15 : (G.at_ == 15) = false) :
    Calls Tryd.prog 37 #[rvV G (.slice Af nf cf) (.slice Ao no co) (.slice Al nl cl), .int .i64 x] w fun e w' => e = .returned (.tuple #[rvV { G with at_ := G.at_ + 1 } (.slice Af nf cf) (.slice Ao no co) (.slice Al nl cl), .int .i64 (-1)]) ∧ Below w.heap.size w w' := by
  have HSZ := Lib.hid (fun (H : Rv) (a b c : Value) => (rv_size.trans (congrArg some (rv_len H a b c).symm)))
  have HONE := Lib.hid (rv_one (Af := Af) (nf := nf) (cf := cf) (Ao := Ao) (no := no) (co := co) (Al := Al) (nl := nl) (cl := cl))
  have d1 : IntKind.i64.wrap (G.at_ + 1) = G.at_ + 1 := IntWalk.i64_in _ (by omega)
  clear h
  unfold rvV
  go_enter Tryd.func37, Tryd.ntmps37
  go_wp2_with (first
    | ((with_reducible refine box_walk rfl 35 (.tmp 0) rfl (rvC G (.slice Af nf cf) (.slice Ao no co) (.slice Al nl cl)) rfl ?_); intro w1 r1 b1 z1; have R1 := Lib.hid r1; have B1 := Lib.hid b1; have hlt1 := r1.lt; clear r1 b1 z1)
    | ((with_reducible refine alloc_walk (o := ⟨some 4, _, _, _, _, _⟩) rfl 35 rfl _ rv_zero ?_); go_must (intro w2 r2 b2 z2; have R2 := Lib.hid (R1.out.below b2); have Q2 := Lib.hid r2; have B2 := Lib.hid (below_on B1.out b2); have c11 := R2.out.cell 11; have f11 := R2.out.soft 11; simp only [rvC, List.getElem?_cons_zero, List.getElem?_cons_succ] at c11; have R3 : Hid (Row (w2.setCell ⟨w.heap.size, 11, none⟩ (.int .i64 (G.at_ + 1))) w.heap.size 35 (rvC { G with at_ := G.at_ + 1 } (.slice Af nf cf) (.slice Ao no co) (.slice Al nl cl))) := Lib.hid (R2.out.put 11 (.int .i64 (G.at_ + 1))); have Q3 : Hid (Row (w2.setCell ⟨w.heap.size, 11, none⟩ (.int .i64 (G.at_ + 1))) w1.heap.size 35 rvZ) := Lib.hid (Q2.out.far (p := ⟨w.heap.size, 11, none⟩) (Nat.ne_of_gt hlt1) _); have B3 := Lib.hid (B2.out.setCell (p := ⟨w.heap.size, 11, none⟩) (Nat.le_refl _) (.int .i64 (G.at_ + 1))); clear r2 b2 z2))
    | (with_reducible refine loadRow_walk rfl 35 (.tmp 2) rfl w.heap.size rfl (rvC { G with at_ := G.at_ + 1 } (.slice Af nf cf) (.slice Ao no co) (.slice Al nl cl)) rv_struct (HSZ.out _ _ _ _) 35 R3.out ?_)
    | ((with_reducible refine storeRow_walk rfl 35 (.tmp 4) (.tmp 105) rfl w1.heap.size rfl (rvC { G with at_ := G.at_ + 1 } (.slice Af nf cf) (.slice Ao no co) (.slice Al nl cl)) rfl (HSZ.out _ _ _ _) 35 rvZ Q3.out rfl (HONE.out _) ?_); intro w4 r4 o4 z4; have R4 := Lib.hid r4; have B4 := Lib.hid (Only.below B3.out o4 B3.out.size (fun k hk e => by subst e; omega)); clear r4 o4 z4))
  exact bodyPost_ret (rv_results2 Tryd.results37 rfl rfl R4.out) rfl ⟨rfl, B4.out⟩
set_option maxRecDepth 100000 in
set_option maxHeartbeats 1000000 in
theorem raft_down (G : Rv) (x : Int) (w : World) (h : G.at_ = 5) (hx : x ≠ addW G.own G.known) :
    Calls Tryd.prog 37 #[rvV G (.slice Af nf cf) (.slice Ao no co) (.slice Al nl cl), .int .i64 x] w fun e w' => e = .returned (.tuple #[rvV { G with at_ := 0 } (.slice Af nf cf) (.slice Ao no co) (.slice Al nl cl), .int .i64 9]) ∧ Below w.heap.size w w' := by
  have HSZ := Lib.hid (fun (H : Rv) (a b c : Value) => (rv_size.trans (congrArg some (rv_len H a b c).symm)))
  have HONE := Lib.hid (rv_one (Af := Af) (nf := nf) (cf := cf) (Ao := Ao) (no := no) (co := co) (Al := Al) (nl := nl) (cl := cl))
  have H1 := Lib.hid h
  have g1 : (x != addW G.own G.known) = true := by simpa using hx
  have KAD := Lib.hid (fun W => radd_any G.own G.known W)
  clear h hx
  unfold rvV
  go_enter Tryd.func37, Tryd.ntmps37
  go_wp2_with (first
    | ((with_reducible refine box_walk rfl 35 (.tmp 0) rfl (rvC G (.slice Af nf cf) (.slice Ao no co) (.slice Al nl cl)) rfl ?_); intro w1 r1 b1 z1; have R1 := Lib.hid r1; have B1 := Lib.hid b1; have hlt1 := r1.lt; clear r1 b1 z1)
    | ((with_reducible refine alloc_walk (o := ⟨some 4, _, _, _, _, _⟩) rfl 35 rfl _ rv_zero ?_); go_must (intro w2 r2 b2 z2; have R2 := Lib.hid (R1.out.below b2); have Q2 := Lib.hid r2; have B2 := Lib.hid (below_on B1.out b2); have c4 := R2.out.cell 4; have f4 := R2.out.soft 4; have c5 := R2.out.cell 5; have f5 := R2.out.soft 5; have c11 := R2.out.cell 11; have f11 := R2.out.soft 11; simp only [rvC, List.getElem?_cons_zero, List.getElem?_cons_succ] at c4 c5 c11; have R3 : Hid (Row (w2.setCell ⟨w.heap.size, 11, none⟩ (.int .i64 0)) w.heap.size 35 (rvC { G with at_ := 0 } (.slice Af nf cf) (.slice Ao no co) (.slice Al nl cl))) := Lib.hid (R2.out.put 11 (.int .i64 0)); have Q3 : Hid (Row (w2.setCell ⟨w.heap.size, 11, none⟩ (.int .i64 0)) w1.heap.size 35 rvZ) := Lib.hid (Q2.out.far (p := ⟨w.heap.size, 11, none⟩) (Nat.ne_of_gt hlt1) _); have B3 := Lib.hid (B2.out.setCell (p := ⟨w.heap.size, 11, none⟩) (Nat.le_refl _) (.int .i64 0)); rw [H1.out] at c11; clear r2 b2 z2))
    | (with_reducible refine loadRow_walk rfl 35 (.tmp 2) rfl w.heap.size rfl (rvC { G with at_ := 0 } (.slice Af nf cf) (.slice Ao no co) (.slice Al nl cl)) rv_struct (HSZ.out _ _ _ _) 35 R3.out ?_)
    | ((with_reducible refine storeRow_walk rfl 35 (.tmp 4) (.tmp 39) rfl w1.heap.size rfl (rvC { G with at_ := 0 } (.slice Af nf cf) (.slice Ao no co) (.slice Al nl cl)) rfl (HSZ.out _ _ _ _) 35 rvZ Q3.out rfl (HONE.out _) ?_); intro w4 r4 o4 z4; have R4 := Lib.hid r4; have B4 := Lib.hid (Only.below B3.out o4 B3.out.size (fun k hk e => by subst e; omega)); clear r4 o4 z4)
    | (go_at_call 48; refine (KAD.out _).mono ?_; rintro e w7 ⟨rfl, rfl⟩))
  exact bodyPost_ret (rv_results2 Tryd.results37 rfl rfl R4.out) rfl ⟨rfl, B4.out⟩
set_option maxRecDepth 100000 in
set_option maxHeartbeats 1000000 in
theorem raft_link (G : Rv) (x : Int) (w : World) (h : G.at_ = 5) (hx : x = addW G.own G.known) :
    Calls Tryd.prog 37 #[rvV G (.slice Af nf cf) (.slice Ao no co) (.slice Al nl cl), .int .i64 x] w fun e w' => e = .returned (.tuple #[rvV { G with linked := true, at_ := 6 } (.slice Af nf cf) (.slice Ao no co) (.slice Al nl cl), .int .i64 (-1)]) ∧ Below w.heap.size w w' := by
  have HSZ := Lib.hid (fun (H : Rv) (a b c : Value) => (rv_size.trans (congrArg some (rv_len H a b c).symm)))
  have HONE := Lib.hid (rv_one (Af := Af) (nf := nf) (cf := cf) (Ao := Ao) (no := no) (co := co) (Al := Al) (nl := nl) (cl := cl))
  have H1 := Lib.hid h
  have g1 : (x != addW G.own G.known) = false := by simpa using hx
  have KAD := Lib.hid (fun W => radd_any G.own G.known W)
  clear h hx
  unfold rvV
  go_enter Tryd.func37, Tryd.ntmps37
  go_wp2_with (first
    | ((with_reducible refine box_walk rfl 35 (.tmp 0) rfl (rvC G (.slice Af nf cf) (.slice Ao no co) (.slice Al nl cl)) rfl ?_); intro w1 r1 b1 z1; have R1 := Lib.hid r1; have B1 := Lib.hid b1; have hlt1 := r1.lt; clear r1 b1 z1)
    | ((with_reducible refine alloc_walk (o := ⟨some 4, _, _, _, _, _⟩) rfl 35 rfl _ rv_zero ?_); go_must (intro w2 r2 b2 z2; have R2 := Lib.hid (R1.out.below b2); have Q2 := Lib.hid r2; have B2 := Lib.hid (below_on B1.out b2); have c4 := R2.out.cell 4; have f4 := R2.out.soft 4; have c5 := R2.out.cell 5; have f5 := R2.out.soft 5; have c6 := R2.out.cell 6; have f6 := R2.out.soft 6; have c11 := R2.out.cell 11; have f11 := R2.out.soft 11; simp only [rvC, List.getElem?_cons_zero, List.getElem?_cons_succ] at c4 c5 c6 c11; have R3 : Hid (Row ((w2.setCell ⟨w.heap.size, 6, none⟩ (.bool true)).setCell ⟨w.heap.size, 11, none⟩ (.int .i64 6)) w.heap.size 35 (rvC { G with linked := true, at_ := 6 } (.slice Af nf cf) (.slice Ao no co) (.slice Al nl cl))) := Lib.hid ((R2.out.put 6 (.bool true)).put 11 (.int .i64 6)); have Q3 : Hid (Row ((w2.setCell ⟨w.heap.size, 6, none⟩ (.bool true)).setCell ⟨w.heap.size, 11, none⟩ (.int .i64 6)) w1.heap.size 35 rvZ) := Lib.hid ((Q2.out.far (p := ⟨w.heap.size, 6, none⟩) (Nat.ne_of_gt hlt1) _).far (p := ⟨w.heap.size, 11, none⟩) (Nat.ne_of_gt hlt1) _); have B3 := Lib.hid ((B2.out.setCell (p := ⟨w.heap.size, 6, none⟩) (Nat.le_refl _) (.bool true)).setCell (p := ⟨w.heap.size, 11, none⟩) (Nat.le_refl _) (.int .i64 6)); rw [H1.out] at c11; clear r2 b2 z2))
    | (with_reducible refine loadRow_walk rfl 35 (.tmp 2) rfl w.heap.size rfl (rvC { G with linked := true, at_ := 6 } (.slice Af nf cf) (.slice Ao no co) (.slice Al nl cl)) rv_struct (HSZ.out _ _ _ _) 35 R3.out ?_)
    | ((with_reducible refine storeRow_walk rfl 35 (.tmp 4) (.tmp 42) rfl w1.heap.size rfl (rvC { G with linked := true, at_ := 6 } (.slice Af nf cf) (.slice Ao no co) (.slice Al nl cl)) rfl (HSZ.out _ _ _ _) 35 rvZ Q3.out rfl (HONE.out _) ?_); intro w4 r4 o4 z4; have R4 := Lib.hid r4; have B4 := Lib.hid (Only.below B3.out o4 B3.out.size (fun k hk e => by subst e; omega)); clear r4 o4 z4)
    | (go_at_call 48; refine (KAD.out _).mono ?_; rintro e w7 ⟨rfl, rfl⟩))
  exact bodyPost_ret (rv_results2 Tryd.results37 rfl rfl R4.out) rfl ⟨rfl, B4.out⟩
set_option maxRecDepth 100000 in
set_option maxHeartbeats 1000000 in
theorem raft_word (G : Rv) (x : Int) (w : World) (h : G.at_ = 8) (hi : 0 ≤ G.i ∧ G.i ≤ 100) (hx : G.i + 1 < (nl : Int)) :
    Calls Tryd.prog 37 #[rvV G (.slice Af nf cf) (.slice Ao no co) (.slice Al nl cl), .int .i64 x] w fun e w' => e = .returned (.tuple #[rvV { G with i := G.i + 1 } (.slice Af nf cf) (.slice Ao no co) (.slice Al nl cl), .int .i64 (-1)]) ∧ Below w.heap.size w w' := by
  have HSZ := Lib.hid (fun (H : Rv) (a b c : Value) => (rv_size.trans (congrArg some (rv_len H a b c).symm)))
  have HONE := Lib.hid (rv_one (Af := Af) (nf := nf) (cf := cf) (Ao := Ao) (no := no) (co := co) (Al := Al) (nl := nl) (cl := cl))
  have H1 := Lib.hid h
  have d1 : IntKind.i64.wrap (G.i + 1) = G.i + 1 := IntWalk.i64_in _ (by omega)
  have g1 : decide ((nl : Int) ≤ G.i + 1) = false := decide_eq_false (by omega)
  clear h hx
  unfold rvV
  go_enter Tryd.func37, Tryd.ntmps37
  go_wp2_with (first
    | ((with_reducible refine box_walk rfl 35 (.tmp 0) rfl (rvC G (.slice Af nf cf) (.slice Ao no co) (.slice Al nl cl)) rfl ?_); intro w1 r1 b1 z1; have R1 := Lib.hid r1; have B1 := Lib.hid b1; have hlt1 := r1.lt; clear r1 b1 z1)
    | ((with_reducible refine alloc_walk (o := ⟨some 4, _, _, _, _, _⟩) rfl 35 rfl _ rv_zero ?_); go_must (intro w2 r2 b2 z2; have R2 := Lib.hid (R1.out.below b2); have Q2 := Lib.hid r2; have B2 := Lib.hid (below_on B1.out b2); have c11 := R2.out.cell 11; have f11 := R2.out.soft 11; have c12 := R2.out.cell 12; have f12 := R2.out.soft 12; have c16 := R2.out.cell 16; have f16 := R2.out.soft 16; simp only [rvC, List.getElem?_cons_zero, List.getElem?_cons_succ] at c11 c12 c16; have R3 : Hid (Row (w2.setCell ⟨w.heap.size, 12, none⟩ (.int .i64 (G.i + 1))) w.heap.size 35 (rvC { G with i := G.i + 1 } (.slice Af nf cf) (.slice Ao no co) (.slice Al nl cl))) := Lib.hid (R2.out.put 12 (.int .i64 (G.i + 1))); have Q3 : Hid (Row (w2.setCell ⟨w.heap.size, 12, none⟩ (.int .i64 (G.i + 1))) w1.heap.size 35 rvZ) := Lib.hid (Q2.out.far (p := ⟨w.heap.size, 12, none⟩) (Nat.ne_of_gt hlt1) _); have B3 := Lib.hid (B2.out.setCell (p := ⟨w.heap.size, 12, none⟩) (Nat.le_refl _) (.int .i64 (G.i + 1))); rw [H1.out] at c11; clear r2 b2 z2))
    | (with_reducible refine loadRow_walk rfl 35 (.tmp 2) rfl w.heap.size rfl (rvC { G with i := G.i + 1 } (.slice Af nf cf) (.slice Ao no co) (.slice Al nl cl)) rv_struct (HSZ.out _ _ _ _) 35 R3.out ?_)
    | ((with_reducible refine storeRow_walk rfl 35 (.tmp 4) (.tmp 78) rfl w1.heap.size rfl (rvC { G with i := G.i + 1 } (.slice Af nf cf) (.slice Ao no co) (.slice Al nl cl)) rfl (HSZ.out _ _ _ _) 35 rvZ Q3.out rfl (HONE.out _) ?_); intro w4 r4 o4 z4; have R4 := Lib.hid r4; have B4 := Lib.hid (Only.below B3.out o4 B3.out.size (fun k hk e => by subst e; omega)); clear r4 o4 z4))
  exact bodyPost_ret (rv_results2 Tryd.results37 rfl rfl R4.out) rfl ⟨rfl, B4.out⟩
set_option maxRecDepth 100000 in
set_option maxHeartbeats 1000000 in
theorem raft_word_end (G : Rv) (x : Int) (w : World) (h : G.at_ = 8) (hi : 0 ≤ G.i ∧ G.i ≤ 100) (hx : (nl : Int) ≤ G.i + 1) :
    Calls Tryd.prog 37 #[rvV G (.slice Af nf cf) (.slice Ao no co) (.slice Al nl cl), .int .i64 x] w fun e w' => e = .returned (.tuple #[rvV { G with i := G.i + 1, at_ := 9 } (.slice Af nf cf) (.slice Ao no co) (.slice Al nl cl), .int .i64 (-1)]) ∧ Below w.heap.size w w' := by
  have HSZ := Lib.hid (fun (H : Rv) (a b c : Value) => (rv_size.trans (congrArg some (rv_len H a b c).symm)))
  have HONE := Lib.hid (rv_one (Af := Af) (nf := nf) (cf := cf) (Ao := Ao) (no := no) (co := co) (Al := Al) (nl := nl) (cl := cl))
  have H1 := Lib.hid h
  have d1 : IntKind.i64.wrap (G.i + 1) = G.i + 1 := IntWalk.i64_in _ (by omega)
  have g1 : decide ((nl : Int) ≤ G.i + 1) = true := decide_eq_true hx
  clear h hx
  unfold rvV
  go_enter Tryd.func37, Tryd.ntmps37
  go_wp2_with (first
    | ((with_reducible refine box_walk rfl 35 (.tmp 0) rfl (rvC G (.slice Af nf cf) (.slice Ao no co) (.slice Al nl cl)) rfl ?_); intro w1 r1 b1 z1; have R1 := Lib.hid r1; have B1 := Lib.hid b1; have hlt1 := r1.lt; clear r1 b1 z1)
    | ((with_reducible refine alloc_walk (o := ⟨some 4, _, _, _, _, _⟩) rfl 35 rfl _ rv_zero ?_); go_must (intro w2 r2 b2 z2; have R2 := Lib.hid (R1.out.below b2); have Q2 := Lib.hid r2; have B2 := Lib.hid (below_on B1.out b2); have c11 := R2.out.cell 11; have f11 := R2.out.soft 11; have c12 := R2.out.cell 12; have f12 := R2.out.soft 12; have c16 := R2.out.cell 16; have f16 := R2.out.soft 16; simp only [rvC, List.getElem?_cons_zero, List.getElem?_cons_succ] at c11 c12 c16; have R3 : Hid (Row ((w2.setCell ⟨w.heap.size, 12, none⟩ (.int .i64 (G.i + 1))).setCell ⟨w.heap.size, 11, none⟩ (.int .i64 9)) w.heap.size 35 (rvC { G with i := G.i + 1, at_ := 9 } (.slice Af nf cf) (.slice Ao no co) (.slice Al nl cl))) := Lib.hid ((R2.out.put 12 (.int .i64 (G.i + 1))).put 11 (.int .i64 9)); have Q3 : Hid (Row ((w2.setCell ⟨w.heap.size, 12, none⟩ (.int .i64 (G.i + 1))).setCell ⟨w.heap.size, 11, none⟩ (.int .i64 9)) w1.heap.size 35 rvZ) := Lib.hid ((Q2.out.far (p := ⟨w.heap.size, 12, none⟩) (Nat.ne_of_gt hlt1) _).far (p := ⟨w.heap.size, 11, none⟩) (Nat.ne_of_gt hlt1) _); have B3 := Lib.hid ((B2.out.setCell (p := ⟨w.heap.size, 12, none⟩) (Nat.le_refl _) (.int .i64 (G.i + 1))).setCell (p := ⟨w.heap.size, 11, none⟩) (Nat.le_refl _) (.int .i64 9)); rw [H1.out] at c11; clear r2 b2 z2))
    | (with_reducible refine loadRow_walk rfl 35 (.tmp 2) rfl w.heap.size rfl (rvC { G with i := G.i + 1, at_ := 9 } (.slice Af nf cf) (.slice Ao no co) (.slice Al nl cl)) rv_struct (HSZ.out _ _ _ _) 35 R3.out ?_)
    | ((with_reducible refine storeRow_walk rfl 35 (.tmp 4) (.tmp 78) rfl w1.heap.size rfl (rvC { G with i := G.i + 1, at_ := 9 } (.slice Af nf cf) (.slice Ao no co) (.slice Al nl cl)) rfl (HSZ.out _ _ _ _) 35 rvZ Q3.out rfl (HONE.out _) ?_); intro w4 r4 o4 z4; have R4 := Lib.hid r4; have B4 := Lib.hid (Only.below B3.out o4 B3.out.size (fun k hk e => by subst e; omega)); clear r4 o4 z4))
  exact bodyPost_ret (rv_results2 Tryd.results37 rfl rfl R4.out) rfl ⟨rfl, B4.out⟩
set_option maxRecDepth 100000 in
set_option maxHeartbeats 1000000 in
theorem raft_over_reset (G : Rv) (x : Int) (w : World) (h : G.at_ = 15) (hx : x ≠ G.known) :
    Calls Tryd.prog 37 #[rvV G (.slice Af nf cf) (.slice Ao no co) (.slice Al nl cl), .int .i64 x] w fun e w' => e = .returned (.tuple #[rvV { G with at_ := 0 } (.slice Af nf cf) (.slice Ao no co) (.slice Al nl cl), .int .i64 8]) ∧ Below w.heap.size w w' := by
  have HSZ := Lib.hid (fun (H : Rv) (a b c : Value) => (rv_size.trans (congrArg some (rv_len H a b c).symm)))
  have HONE := Lib.hid (rv_one (Af := Af) (nf := nf) (cf := cf) (Ao := Ao) (no := no) (co := co) (Al := Al) (nl := nl) (cl := cl))
  have H1 := Lib.hid h
  have g1 : (x != G.known) = true := by simpa using hx
  clear h hx
  unfold rvV
  go_enter Tryd.func37, Tryd.ntmps37
  go_wp2_with (first
    | ((with_reducible refine box_walk rfl 35 (.tmp 0) rfl (rvC G (.slice Af nf cf) (.slice Ao no co) (.slice Al nl cl)) rfl ?_); intro w1 r1 b1 z1; have R1 := Lib.hid r1; have B1 := Lib.hid b1; have hlt1 := r1.lt; clear r1 b1 z1)
    | ((with_reducible refine alloc_walk (o := ⟨some 4, _, _, _, _, _⟩) rfl 35 rfl _ rv_zero ?_); go_must (intro w2 r2 b2 z2; have R2 := Lib.hid (R1.out.below b2); have Q2 := Lib.hid r2; have B2 := Lib.hid (below_on B1.out b2); have c5 := R2.out.cell 5; have f5 := R2.out.soft 5; have c11 := R2.out.cell 11; have f11 := R2.out.soft 11; simp only [rvC, List.getElem?_cons_zero, List.getElem?_cons_succ] at c5 c11; have R3 : Hid (Row (w2.setCell ⟨w.heap.size, 11, none⟩ (.int .i64 0)) w.heap.size 35 (rvC { G with at_ := 0 } (.slice Af nf cf) (.slice Ao no co) (.slice Al nl cl))) := Lib.hid (R2.out.put 11 (.int .i64 0)); have Q3 : Hid (Row (w2.setCell ⟨w.heap.size, 11, none⟩ (.int .i64 0)) w1.heap.size 35 rvZ) := Lib.hid (Q2.out.far (p := ⟨w.heap.size, 11, none⟩) (Nat.ne_of_gt hlt1) _); have B3 := Lib.hid (B2.out.setCell (p := ⟨w.heap.size, 11, none⟩) (Nat.le_refl _) (.int .i64 0)); rw [H1.out] at c11; clear r2 b2 z2))
    | (with_reducible refine loadRow_walk rfl 35 (.tmp 2) rfl w.heap.size rfl (rvC { G with at_ := 0 } (.slice Af nf cf) (.slice Ao no co) (.slice Al nl cl)) rv_struct (HSZ.out _ _ _ _) 35 R3.out ?_)
    | ((with_reducible refine storeRow_walk rfl 35 (.tmp 4) (.tmp 90) rfl w1.heap.size rfl (rvC { G with at_ := 0 } (.slice Af nf cf) (.slice Ao no co) (.slice Al nl cl)) rfl (HSZ.out _ _ _ _) 35 rvZ Q3.out rfl (HONE.out _) ?_); intro w4 r4 o4 z4; have R4 := Lib.hid r4; have B4 := Lib.hid (Only.below B3.out o4 B3.out.size (fun k hk e => by subst e; omega)); clear r4 o4 z4))
  exact bodyPost_ret (rv_results2 Tryd.results37 rfl rfl R4.out) rfl ⟨rfl, B4.out⟩
end
end

section
open Go.ChangeShapes Go.WideShapes Go.ChangeAt Go.RowKit
section
variable {Af Ao Al : Option Addr} {nf cf no co nl cl : Nat}
set_option maxRecDepth 100000 in
set_option maxHeartbeats 1000000 in
theorem rroomy_full (G : Rv) (w : World) (h : ¬ 0 < G.left) :
    Calls Tryd.prog 52 #[rvV G (.slice Af 0 cf) (.slice Ao no co) (.slice Al nl cl)] w fun e w' => e = .returned (rvV { G with at_ := 15, ans := 5 } (.slice Af 0 cf) (.slice Ao no co) (.slice Al nl cl)) ∧ Below w.heap.size w w' := by
  have HSZ := Lib.hid (fun (H : Rv) (a b c : Value) => (rv_size.trans (congrArg some (rv_len H a b c).symm)))
  have HONE := Lib.hid (rv_one (Af := Af) (nf := 0) (cf := cf) (Ao := Ao) (no := no) (co := co) (Al := Al) (nl := nl) (cl := cl))
  have g1 : decide ((0 : Int) < G.left) = false := decide_eq_false h
  clear h
  have KO := Lib.hid (fun W => rover_any (Af := Af) (nf := 0) (cf := cf) (Ao := Ao) (no := no) (co := co) (Al := Al) (nl := nl) (cl := cl) G 5 W)
  unfold rvV at KO
  unfold rvV
  go_enter Tryd.func52, Tryd.ntmps52
  go_wp2_with (first
    | ((with_reducible refine box_walk rfl 35 (.tmp 0) rfl (rvC G (.slice Af 0 cf) (.slice Ao no co) (.slice Al nl cl)) rfl ?_); intro w1 r1 b1 z1; have R1 := Lib.hid r1; have B1 := Lib.hid b1; have hlt1 := r1.lt; clear r1 b1 z1)
    | ((with_reducible refine alloc_walk (o := ⟨some 2, _, _, _, _, _⟩) rfl 35 rfl _ rv_zero ?_); go_must (intro w2 r2 b2 z2; have R2 := Lib.hid (R1.out.below b2); have Q2 := Lib.hid r2; have B2 := Lib.hid (below_on B1.out b2); have c7 := R2.out.cell 7; have f7 := R2.out.soft 7; have c13 := R2.out.cell 13; have f13 := R2.out.soft 13; simp only [rvC, List.getElem?_cons_zero, List.getElem?_cons_succ] at c7 c13; have R3 : Hid (Row w2 w.heap.size 35 (rvC G (.slice Af 0 cf) (.slice Ao no co) (.slice Al nl cl))) := Lib.hid R2.out; have Q3 : Hid (Row w2 w1.heap.size 35 rvZ) := Lib.hid Q2.out; have B3 := Lib.hid B2.out; clear r2 b2 z2))
    | (with_reducible refine loadRow_walk rfl 35 (.tmp 1) rfl w.heap.size rfl (rvC G (.slice Af 0 cf) (.slice Ao no co) (.slice Al nl cl)) rv_struct (HSZ.out _ _ _ _) 35 R3.out ?_)
    | (go_at_call 51; refine (KO.out _).mono ?_; rintro e w8 ⟨rfl, b8⟩; have Q8 := Lib.hid (Q3.out.below b8); have B8 := Lib.hid (below_on B3.out b8); clear b8)
    | ((with_reducible refine storeRow_walk rfl 35 (.tmp 2) (.tmp 14) rfl w1.heap.size rfl (rvC { G with at_ := 15, ans := 5 } (.slice Af 0 cf) (.slice Ao no co) (.slice Al nl cl)) rfl (HSZ.out _ _ _ _) 35 rvZ Q8.out rfl (HONE.out _) ?_); intro w4 r4 o4 z4; have R4 := Lib.hid r4; have B4 := Lib.hid (Only.below B8.out o4 B8.out.size (fun k hk e => by subst e; omega)); clear r4 o4 z4))
  exact bodyPost_ret (rv_results Tryd.results52 rfl R4.out) rfl ⟨rfl, B4.out⟩
set_option maxRecDepth 100000 in
set_option maxHeartbeats 1000000 in
theorem raft_ring (G : Rv) (x : Int) (w : World) (h : G.at_ = 14) :
    Calls Tryd.prog 37 #[rvV G (.slice Af nf cf) (.slice Ao no co) (.slice Al nl cl), .int .i64 x] w fun e w' => e = .returned (.tuple #[rvV { G with at_ := 15, ans := 0 } (.slice Af nf cf) (.slice Ao no co) (.slice Al nl cl), .int .i64 (-1)]) ∧ Below w.heap.size w w' := by
  have HSZ := Lib.hid (fun (H : Rv) (a b c : Value) => (rv_size.trans (congrArg some (rv_len H a b c).symm)))
  have HONE := Lib.hid (rv_one (Af := Af) (nf := nf) (cf := cf) (Ao := Ao) (no := no) (co := co) (Al := Al) (nl := nl) (cl := cl))
  have H1 := Lib.hid h
  clear h
  have KO := Lib.hid (fun W => rover_any (Af := Af) (nf := nf) (cf := cf) (Ao := Ao) (no := no) (co := co) (Al := Al) (nl := nl) (cl := cl) G 0 W)
  unfold rvV at KO
  unfold rvV
  go_enter Tryd.func37, Tryd.ntmps37
  go_wp2_with (first
    | ((with_reducible refine box_walk rfl 35 (.tmp 0) rfl (rvC G (.slice Af nf cf) (.slice Ao no co) (.slice Al nl cl)) rfl ?_); intro w1 r1 b1 z1; have R1 := Lib.hid r1; have B1 := Lib.hid b1; have hlt1 := r1.lt; clear r1 b1 z1)
    | ((with_reducible refine alloc_walk (o := ⟨some 4, _, _, _, _, _⟩) rfl 35 rfl _ rv_zero ?_); go_must (intro w2 r2 b2 z2; have R2 := Lib.hid (R1.out.below b2); have Q2 := Lib.hid r2; have B2 := Lib.hid (below_on B1.out b2); have c11 := R2.out.cell 11; have f11 := R2.out.soft 11; simp only [rvC, List.getElem?_cons_zero, List.getElem?_cons_succ] at c11; have R3 : Hid (Row w2 w.heap.size 35 (rvC G (.slice Af nf cf) (.slice Ao no co) (.slice Al nl cl))) := Lib.hid R2.out; have Q3 : Hid (Row w2 w1.heap.size 35 rvZ) := Lib.hid Q2.out; have B3 := Lib.hid B2.out; rw [H1.out] at c11; clear r2 b2 z2))
    | (with_reducible refine loadRow_walk rfl 35 (.tmp 2) rfl w.heap.size rfl (rvC G (.slice Af nf cf) (.slice Ao no co) (.slice Al nl cl)) rv_struct (HSZ.out _ _ _ _) 35 R3.out ?_)
    | (go_at_call 51; refine (KO.out _).mono ?_; rintro e w8 ⟨rfl, b8⟩; have Q8 := Lib.hid (Q3.out.below b8); have B8 := Lib.hid (below_on B3.out b8); clear b8)
    | ((with_reducible refine storeRow_walk rfl 35 (.tmp 4) (.tmp 82) rfl w1.heap.size rfl (rvC { G with at_ := 15, ans := 0 } (.slice Af nf cf) (.slice Ao no co) (.slice Al nl cl)) rfl (HSZ.out _ _ _ _) 35 rvZ Q8.out rfl (HONE.out _) ?_); intro w4 r4 o4 z4; have R4 := Lib.hid r4; have B4 := Lib.hid (Only.below B8.out o4 B8.out.size (fun k hk e => by subst e; omega)); clear r4 o4 z4))
  exact bodyPost_ret (rv_results2 Tryd.results37 rfl rfl R4.out) rfl ⟨rfl, B4.out⟩
set_option maxRecDepth 100000 in
set_option maxHeartbeats 1000000 in
theorem raft_room_bad (G : Rv) (x : Int) (w : World) (h : G.at_ = 6) (hx : (no : Int) < subW x G.tail) :
    Calls Tryd.prog 37 #[rvV G (.slice Af nf cf) (.slice Ao no co) (.slice Al nl cl), .int .i64 x] w fun e w' => e = .returned (.tuple #[rvV { { G with left := subW x G.tail } with at_ := 15, ans := 10 } (.slice Af nf cf) (.slice Ao no co) (.slice Al nl cl), .int .i64 (-1)]) ∧ Below w.heap.size w w' := by
  have HSZ := Lib.hid (fun (H : Rv) (a b c : Value) => (rv_size.trans (congrArg some (rv_len H a b c).symm)))
  have HONE := Lib.hid (rv_one (Af := Af) (nf := nf) (cf := cf) (Ao := Ao) (no := no) (co := co) (Al := Al) (nl := nl) (cl := cl))
  have H1 := Lib.hid h
  have g1 : decide ((no : Int) < subW x G.tail) = true := decide_eq_true hx
  have KSB := Lib.hid (fun W => rsub_any x G.tail W)
  clear h hx
  have KO := Lib.hid (fun W => rover_any (Af := Af) (nf := nf) (cf := cf) (Ao := Ao) (no := no) (co := co) (Al := Al) (nl := nl) (cl := cl) ({ G with left := subW x G.tail }) 10 W)
  unfold rvV at KO
  unfold rvV
  go_enter Tryd.func37, Tryd.ntmps37
  go_wp2_with (first
    | ((with_reducible refine box_walk rfl 35 (.tmp 0) rfl (rvC G (.slice Af nf cf) (.slice Ao no co) (.slice Al nl cl)) rfl ?_); intro w1 r1 b1 z1; have R1 := Lib.hid r1; have B1 := Lib.hid b1; have hlt1 := r1.lt; clear r1 b1 z1)
    | ((with_reducible refine alloc_walk (o := ⟨some 4, _, _, _, _, _⟩) rfl 35 rfl _ rv_zero ?_); go_must (intro w2 r2 b2 z2; have R2 := Lib.hid (R1.out.below b2); have Q2 := Lib.hid r2; have B2 := Lib.hid (below_on B1.out b2); have c8 := R2.out.cell 8; have f8 := R2.out.soft 8; have c10 := R2.out.cell 10; have f10 := R2.out.soft 10; have c11 := R2.out.cell 11; have f11 := R2.out.soft 11; have c13 := R2.out.cell 13; have f13 := R2.out.soft 13; simp only [rvC, List.getElem?_cons_zero, List.getElem?_cons_succ] at c8 c10 c11 c13; have R3 : Hid (Row (w2.setCell ⟨w.heap.size, 13, none⟩ (.int .i64 (subW x G.tail))) w.heap.size 35 (rvC { G with left := subW x G.tail } (.slice Af nf cf) (.slice Ao no co) (.slice Al nl cl))) := Lib.hid (R2.out.put 13 (.int .i64 (subW x G.tail))); have Q3 : Hid (Row (w2.setCell ⟨w.heap.size, 13, none⟩ (.int .i64 (subW x G.tail))) w1.heap.size 35 rvZ) := Lib.hid (Q2.out.far (p := ⟨w.heap.size, 13, none⟩) (Nat.ne_of_gt hlt1) _); have B3 := Lib.hid (B2.out.setCell (p := ⟨w.heap.size, 13, none⟩) (Nat.le_refl _) (.int .i64 (subW x G.tail))); rw [H1.out] at c11; clear r2 b2 z2))
    | (go_at_call 50; refine (KSB.out _).mono ?_; rintro e w7 ⟨rfl, rfl⟩)
    | (with_reducible refine loadRow_walk rfl 35 (.tmp 2) rfl w.heap.size rfl (rvC { G with left := subW x G.tail } (.slice Af nf cf) (.slice Ao no co) (.slice Al nl cl)) rv_struct (HSZ.out _ _ _ _) 35 R3.out ?_)
    | (go_at_call 51; refine (KO.out _).mono ?_; rintro e w8 ⟨rfl, b8⟩; have Q8 := Lib.hid (Q3.out.below b8); have B8 := Lib.hid (below_on B3.out b8); clear b8)
    | ((with_reducible refine storeRow_walk rfl 35 (.tmp 4) (.tmp 57) rfl w1.heap.size rfl (rvC { { G with left := subW x G.tail } with at_ := 15, ans := 10 } (.slice Af nf cf) (.slice Ao no co) (.slice Al nl cl)) rfl (HSZ.out _ _ _ _) 35 rvZ Q8.out rfl (HONE.out _) ?_); intro w4 r4 o4 z4; have R4 := Lib.hid r4; have B4 := Lib.hid (Only.below B8.out o4 B8.out.size (fun k hk e => by subst e; omega)); clear r4 o4 z4))
  exact bodyPost_ret (rv_results2 Tryd.results37 rfl rfl R4.out) rfl ⟨rfl, B4.out⟩
end
end

section
open Go.ChangeShapes Go.WideShapes Go.ChangeAt Go.RowKit
theorem upto16_more (k : Nat) : upto16 k ++ [(k : Int)] = upto16 (k + 1) := by simp [upto16, List.range_succ]
theorem own_rebase16 {w : World} {B B' : Nat} {e : TypeId} {size n : Nat} {v : Value} {xs : List Value} (h : w.ownsRow B' e size v n xs) (hB : B ≤ B') : w.ownsRow B e size v n xs :=
  ⟨h.1, h.2.imp id (fun ⟨g, cap, cur, h1, h2, h3⟩ => ⟨g, cap, cur, h1, Nat.le_trans hB h2, h3⟩)⟩
/-- As at first, but for what it knows. -/
def rf16 (G : Rv) (R : Nat) : Rv := ⟨G.B, G.R, G.self, G.peer, G.own, G.known, false, upto16 R, [], 0, 0, 0, 0, 0, 0, 0, []⟩
section
variable {Af Ao Al : Option Addr} {nf cf no co nl cl : Nat}
set_option maxRecDepth 100000 in
set_option maxHeartbeats 1000000 in
theorem rfirst_any (G : Rv) (R : Nat) (hR : G.R = (R : Int)) (h64 : R ≤ 64) (w : World) :
    Calls Tryd.prog 28 #[rvV G (.slice Af nf cf) (.slice Ao no co) (.slice Al nl cl)] w fun e w' => ∃ A c, e = .returned (rvV (rf16 G R) (.slice A R c) (.slice none 0 0) (.slice none 0 0)) ∧ w'.ownsRow w.heap.size 3 1 (.slice A R c) R (ints (upto16 R)) ∧ Below w.heap.size w w' := by
  obtain ⟨i0, hi0, hz0, hz1, hz2⟩ := info_parts int_info
  have HSZ := Lib.hid (fun (H : Rv) (a b c : Value) => (rv_size.trans (congrArg some (rv_len H a b c).symm)))
  have HR := Lib.hid hR
  clear hR
  unfold rvV
  go_enter Tryd.func28, Tryd.ntmps28
  go_wp2_with (first
    | ((with_reducible refine box_walk rfl 35 (.tmp 0) rfl (rvC G (.slice Af nf cf) (.slice Ao no co) (.slice Al nl cl)) rfl ?_); intro w1 r1 b1 z1; have R1 := Lib.hid r1; have B1 := Lib.hid b1; have hlt1 := r1.lt; clear r1 b1 z1)
    | ((with_reducible refine alloc_walk (o := ⟨some 2, _, _, _, _, _⟩) rfl 35 rfl _ rv_zero ?_); go_must (intro w2 r2 b2 z2; have R2 := Lib.hid (R1.out.below b2); have Q2 := Lib.hid r2; have B2 := Lib.hid (below_on B1.out b2); have Z2 := Lib.hid z2; clear r2 b2 z2)))
  go_loopw [3, 4] (fun lv iv wr => ∃ (i : Nat) (A : Option Addr) (c : Nat), i ≤ R ∧ iv = .int .i64 i ∧ lv = .slice A i c ∧ Hid (wr.ownsRow w2.heap.size 3 1 (.slice A i c) i (ints (upto16 i))) ∧ Hid (Below w2.heap.size w2 wr)) (fun _ iv _ => R + 1 - (intOf iv).toNat)
  case atStart => exact ⟨0, none, 0, Nat.zero_le _, rfl, rfl, Lib.hid (World.ownsRow_nil _ _ _ _), Lib.hid (Below.refl _ _)⟩
  case round =>
    obtain ⟨i, A, c, hi, rfl, rfl, O, B⟩ := hrel
    have q0 := (R2.out.below B.out).cell 0
    have q1 := (R2.out.below B.out).cell 1
    have q2 := (R2.out.below B.out).cell 2
    have q3 := (R2.out.below B.out).cell 3
    have q4 := (R2.out.below B.out).cell 4
    have q5 := (R2.out.below B.out).cell 5
    simp only [rvC, List.getElem?_cons_zero, List.getElem?_cons_succ] at q0 q1 q2 q3 q4 q5
    by_cases hlt : i < R
    · rw [HR.out] at q1
      have hin : decide ((i : Int) < (R : Int)) = true := by simp; omega
      have hB := B.out.size
      go_wp2_with (at_builtin; go_must ((refine app14_walk rfl (.tmp 11) (.tmp 13) 33 rfl w2.heap.size 3 i0 _ 1 8 Tryd.underlying33 hi0 hz0 hz1 hz2 rfl (by omega) _ _ _ rfl (O.out.alloc _) ⟨_, 0, none⟩ 1 1 [.int .i64 (i : Int)] rfl rfl (cells_new14 _ _ _ _ (by simp)) (by intro u hu; simp at hu; subst hu; rfl) (by unfold maxLen; omega) (by omega) (by simp; omega) ?_); intro v3 w3 hown3 hg3 hat3; obtain ⟨g', cap', rfl, hbg, hlt'⟩ := hown3.form (by omega); have O3 : Hid (w3.ownsRow w2.heap.size 3 1 (.slice (some ⟨g', 0, none⟩) (i + 1) cap') (i + 1) (ints (upto16 (i + 1)))) := Lib.hid (by rw [← upto16_more, ints_append]; exact hown3); have B3 : Hid (Below w2.heap.size w2 w3) := Lib.hid (Only.below (below_on B.out (below_al _ _)) (Only.of_own hg3) (by simp; omega) (fun x hx h => by have := (O.out.lt x h).1; omega)); clear hown3 hg3 hat3))
      clear O B
      go_roundw
      case rel => exact ⟨i + 1, some ⟨g', 0, none⟩, cap', by omega, by go_num, rfl, O3, B3⟩
      case measure => simp [intOf]; omega
    · obtain rfl : R = i := by omega
      have hin : decide ((R : Int) < (R : Int)) = false := by simp
      rw [HR.out] at q1
      have Q4 := Lib.hid (Q2.out.below B.out)
      have E4 : Hid (rvC (rf16 G R) (.slice A R c) (.slice none 0 0) (.slice none 0 0) = [.int .i64 G.B, .int .i64 (R : Int), .int .i64 G.self, .int .i64 G.peer, .int .i64 G.own, .int .i64 G.known, .bool false, .slice A R c, .slice none 0 0, .int .i64 0, .int .i64 0, .int .i64 0, .int .i64 0, .int .i64 0, .int .i64 0, .int .i64 0, .slice none 0 0]) := Lib.hid (by unfold rvC rf16; rw [HR.out])
      have HS4 := Lib.hid (HSZ.out (rf16 G R) (.slice A R c) (.slice none 0 0) (.slice none 0 0))
      have HO4 := Lib.hid (rv_one (Af := A) (nf := R) (cf := c) (Ao := none) (no := 0) (co := 0) (Al := none) (nl := 0) (cl := 0) (rf16 G R))
      rw [E4.out] at HS4 HO4
      go_wp2_with (first | ((with_reducible refine storeRow_walk rfl 35 (.tmp 2) (.tmp 28) rfl w1.heap.size rfl [.int .i64 G.B, .int .i64 (R : Int), .int .i64 G.self, .int .i64 G.peer, .int .i64 G.own, .int .i64 G.known, .bool false, .slice A R c, .slice none 0 0, .int .i64 0, .int .i64 0, .int .i64 0, .int .i64 0, .int .i64 0, .int .i64 0, .int .i64 0, .slice none 0 0] rfl HS4.out 35 rvZ Q4.out rfl HO4.out ?_); intro w4 r4 o4 z4; have R4 := Lib.hid r4; have OO := Lib.hid o4; clear r4 o4 z4))
      rw [← E4.out] at R4
      have s1 := B1.out.size
      have s2 := Z2.out
      refine bodyPost_ret (rv_results Tryd.results28 rfl R4.out) rfl ⟨A, c, rfl, own_rebase16 (own_quiet O.out (fun x hx => OO.out.block x (O.out.lt x hx).2 (fun e => by have := (O.out.lt x hx).1; omega))) (by omega), Only.below (below_on B2.out B.out) OO.out (by have := B.out.size; omega) (fun x hx e => by omega)⟩
end
end

section
open Go.ChangeShapes Go.WideShapes Go.ChangeAt Go.RowKit
section
variable {Af Ao Al : Option Addr} {nf cf no co nl cl : Nat}
set_option maxRecDepth 100000 in
set_option maxHeartbeats 1000000 in
theorem raft_settle (G : Rv) (x : Int) (R : Nat) (hR : G.R = (R : Int)) (h64 : R ≤ 64) (w : World) (h : G.at_ = 4) :
    Calls Tryd.prog 37 #[rvV G (.slice Af nf cf) (.slice Ao no co) (.slice Al nl cl), .int .i64 x] w fun e w' => ∃ A c, e = .returned (.tuple #[rvV (rf16 G R) (.slice A R c) (.slice none 0 0) (.slice none 0 0), .int .i64 8]) ∧ w'.ownsRow w.heap.size 3 1 (.slice A R c) R (ints (upto16 R)) ∧ Below w.heap.size w w' := by
  have HSZ := Lib.hid (fun (H : Rv) (a b c : Value) => (rv_size.trans (congrArg some (rv_len H a b c).symm)))
  have H1 := Lib.hid h
  have KF := Lib.hid (fun W => rfirst_any (Af := Af) (nf := nf) (cf := cf) (Ao := Ao) (no := no) (co := co) (Al := Al) (nl := nl) (cl := cl) G R hR h64 W)
  unfold rvV at KF
  clear h hR
  unfold rvV
  go_enter Tryd.func37, Tryd.ntmps37
  go_wp2_with (first
    | ((with_reducible refine box_walk rfl 35 (.tmp 0) rfl (rvC G (.slice Af nf cf) (.slice Ao no co) (.slice Al nl cl)) rfl ?_); intro w1 r1 b1 z1; have R1 := Lib.hid r1; have B1 := Lib.hid b1; have hlt1 := r1.lt; clear r1 b1 z1)
    | ((with_reducible refine alloc_walk (o := ⟨some 4, _, _, _, _, _⟩) rfl 35 rfl _ rv_zero ?_); go_must (intro w2 r2 b2 z2; have R2 := Lib.hid (R1.out.below b2); have Q2 := Lib.hid r2; have B2 := Lib.hid (below_on B1.out b2); have Z2 := Lib.hid z2; have c11 := R2.out.cell 11; simp only [rvC, List.getElem?_cons_zero, List.getElem?_cons_succ] at c11; rw [H1.out] at c11; clear r2 b2 z2))
    | (with_reducible refine loadRow_walk rfl 35 (.tmp 2) rfl w.heap.size rfl (rvC G (.slice Af nf cf) (.slice Ao no co) (.slice Al nl cl)) rv_struct (HSZ.out _ _ _ _) 35 R2.out ?_)
    | (go_at_call 28; refine (KF.out _).mono ?_; rintro e w8 ⟨A, c, rfl, o8, b8⟩; have Q8 := Lib.hid (Q2.out.below b8); have B8 := Lib.hid b8; have O8 := Lib.hid o8; clear b8 o8)
    | ((with_reducible refine storeRow_walk rfl 35 (.tmp 4) (.tmp 28) rfl w1.heap.size rfl (rvC (rf16 G R) (.slice A R c) (.slice none 0 0) (.slice none 0 0)) rfl (HSZ.out _ _ _ _) 35 rvZ Q8.out rfl (rv_one _) ?_); intro w4 r4 o4 z4; have R4 := Lib.hid r4; have OO := Lib.hid o4; clear r4 o4 z4))
  have s1 := B1.out.size
  have s2 := Z2.out
  exact bodyPost_ret (rv_results2 Tryd.results37 rfl rfl R4.out) rfl ⟨A, c, rfl, own_rebase16 (own_quiet O8.out (fun x hx => OO.out.block x (O8.out.lt x hx).2 (fun e => by have := (O8.out.lt x hx).1; omega))) (by omega), Only.below (below_on B2.out B8.out) OO.out (by have := B8.out.size; omega) (fun x hx e => by omega)⟩
end
/-- A new giver of the reference. -/
def rn16v (B : Int) (R : Nat) (self peer own : Int) : Rv := ⟨B, (R : Int), self, peer, own, if 0 < own then -1 else 0, false, upto16 R, [], 0, 0, 0, 0, 0, 0, 0, []⟩
set_option maxRecDepth 100000 in
set_option maxHeartbeats 1000000 in
theorem rnew16_any (B : Int) (R : Nat) (self peer own : Int) (h64 : R ≤ 64) (w : World) :
    Calls Tryd.prog 9 #[.int .i64 B, .int .i64 (R : Int), .int .i64 self, .int .i64 peer, .int .i64 own] w fun e w' => ∃ A c, e = .returned (rvV (rn16v B R self peer own) (.slice A R c) (.slice none 0 0) (.slice none 0 0)) ∧ w'.ownsRow w.heap.size 3 1 (.slice A R c) R (ints (upto16 R)) ∧ Below w.heap.size w w' := by
  have HSZ := Lib.hid (fun (H : Rv) (a b c : Value) => (rv_size.trans (congrArg some (rv_len H a b c).symm)))
  obtain ⟨G0, hG0⟩ : ∃ G0 : Rv, G0 = ⟨B, (R : Int), self, peer, own, 0, false, [], [], 0, 0, 0, 0, 0, 0, 0, []⟩ := ⟨_, rfl⟩
  have KF := Lib.hid (fun W => rfirst_any (Af := none) (nf := 0) (cf := 0) (Ao := none) (no := 0) (co := 0) (Al := none) (nl := 0) (cl := 0) G0 R (by rw [hG0]) h64 W)
  have EG : Hid (rf16 G0 R = { rn16v B R self peer own with known := 0 }) := Lib.hid (by rw [hG0]; rfl)
  rw [EG.out, hG0] at KF
  unfold rvV at KF
  clear hG0 EG
  have g1 : decide ((0 : Int) < own) = true ∨ decide ((0 : Int) < own) = false := by cases decide ((0 : Int) < own) <;> simp
  obtain ⟨G1, hG1⟩ : ∃ G1 : Rv, { rn16v B R self peer own with known := 0 } = G1 := ⟨_, rfl⟩
  have HG1 := Lib.hid hG1
  rw [hG1] at KF
  clear hG1
  rcases g1 with g1 | g1
  · go_enter Tryd.func9, Tryd.ntmps9
    go_wp2_with (first
      | ((with_reducible refine alloc_walk (o := ⟨some 10, _, _, _, _, _⟩) rfl 35 rfl _ rv_zero ?_); go_must (intro w1 r1 b1 z1; have Q1 := Lib.hid r1; have B1 := Lib.hid b1; have Z1 := Lib.hid z1; clear r1 b1 z1))
      | (go_at_call 28; refine (KF.out _).mono ?_; rintro e w2 ⟨A, c, rfl, o2, b2⟩; have Q2 := Lib.hid (Q1.out.below b2); have B2 := Lib.hid b2; have O2 := Lib.hid o2; have hlt2 : w.heap.size < w2.heap.size := Q2.out.lt; clear b2 o2)
      | ((with_reducible refine alloc_walk (o := ⟨some 11, _, _, _, _, _⟩) rfl 35 rfl _ rv_zero ?_); go_must (intro w3 r3 b3 z3; have Q3 := Lib.hid (Q2.out.below b3); have R3 := Lib.hid r3; have O3 := Lib.hid (own_quiet O2.out (fun x hx => b3.block x (O2.out.lt x hx).2)); have B3 := Lib.hid (below_on B2.out b3); have Z3 := Lib.hid z3; clear r3 b3 z3))
      | ((with_reducible refine storeRow_walk rfl 35 (.tmp 11) (.tmp 18) rfl w2.heap.size rfl (rvC G1 (.slice A R c) (.slice none 0 0) (.slice none 0 0)) rfl (HSZ.out _ _ _ _) 35 rvZ R3.out rfl (rv_one _) ?_); intro w4 r4 o4 z4; have R4 := Lib.hid r4; have N4 := Lib.hid o4; have c5 := R4.out.cell 5; have f5 := R4.out.soft 5; simp only [rvC, List.getElem?_cons_zero, List.getElem?_cons_succ] at c5; have Z4 := Lib.hid z4; have R5 : Hid (Row (w4.setCell ⟨w2.heap.size, 5, none⟩ (.int .i64 (-1))) w2.heap.size 35 (rvC { G1 with known := -1 } (.slice A R c) (.slice none 0 0) (.slice none 0 0))) := Lib.hid (R4.out.put 5 (.int .i64 (-1))); have Q5 := Lib.hid ((Q3.out.only N4.out (fun e => by omega)).far (p := ⟨w2.heap.size, 5, none⟩) (Nat.ne_of_lt hlt2) (.int .i64 (-1))); clear r4 o4 z4)
      | (with_reducible refine loadRow_walk rfl 35 (.tmp 11) rfl w2.heap.size rfl (rvC { G1 with known := -1 } (.slice A R c) (.slice none 0 0) (.slice none 0 0)) rv_struct (HSZ.out _ _ _ _) 35 R5.out ?_)
      | ((with_reducible refine storeRow_walk rfl 35 (.tmp 10) (.tmp 22) rfl w.heap.size rfl (rvC { G1 with known := -1 } (.slice A R c) (.slice none 0 0) (.slice none 0 0)) rfl (HSZ.out _ _ _ _) 35 rvZ Q5.out rfl (rv_one _) ?_); intro w6 r6 o6 z6; have R6 := Lib.hid r6; have N6 := Lib.hid o6; clear r6 o6 z6))
    have s1 := Z1.out
    have NN : Only (fun x => x = w2.heap.size ∨ x = w.heap.size) w3 w6 := ((N4.out.mono (fun x _ e => .inl e)).setCell (p := ⟨w2.heap.size, 5, none⟩) (.inl (.inl rfl)) _).trans (N6.out.mono (fun x _ e => .inr e))
    have EG : rn16v B R self peer own = { G1 with known := -1 } := by
      rw [← HG1.out]
      have : (0 : Int) < own := of_decide_eq_true g1
      unfold rn16v
      rw [if_pos this]
    rw [EG]
    refine bodyPost_ret (rv_results Tryd.results9 rfl R6.out) rfl ⟨A, c, rfl, own_rebase16 (own_quiet O3.out (fun x hx => NN.block x (O3.out.lt x hx).2 (fun e => by have h1 := (O2.out.lt x hx); omega))) (by omega), Only.below (below_on B1.out B3.out) NN (by have := B3.out.size; omega) (fun x hx e => by omega)⟩
  · go_enter Tryd.func9, Tryd.ntmps9
    go_wp2_with (first
      | ((with_reducible refine alloc_walk (o := ⟨some 10, _, _, _, _, _⟩) rfl 35 rfl _ rv_zero ?_); go_must (intro w1 r1 b1 z1; have Q1 := Lib.hid r1; have B1 := Lib.hid b1; have Z1 := Lib.hid z1; clear r1 b1 z1))
      | (go_at_call 28; refine (KF.out _).mono ?_; rintro e w2 ⟨A, c, rfl, o2, b2⟩; have Q2 := Lib.hid (Q1.out.below b2); have B2 := Lib.hid b2; have O2 := Lib.hid o2; have hlt2 : w.heap.size < w2.heap.size := Q2.out.lt; clear b2 o2)
      | ((with_reducible refine alloc_walk (o := ⟨some 11, _, _, _, _, _⟩) rfl 35 rfl _ rv_zero ?_); go_must (intro w3 r3 b3 z3; have Q3 := Lib.hid (Q2.out.below b3); have R3 := Lib.hid r3; have O3 := Lib.hid (own_quiet O2.out (fun x hx => b3.block x (O2.out.lt x hx).2)); have B3 := Lib.hid (below_on B2.out b3); have Z3 := Lib.hid z3; clear r3 b3 z3))
      | ((with_reducible refine storeRow_walk rfl 35 (.tmp 11) (.tmp 18) rfl w2.heap.size rfl (rvC G1 (.slice A R c) (.slice none 0 0) (.slice none 0 0)) rfl (HSZ.out _ _ _ _) 35 rvZ R3.out rfl (rv_one _) ?_); intro w4 r4 o4 z4; have R4 := Lib.hid r4; have N4 := Lib.hid o4; have Q5 := Lib.hid (Q3.out.only N4.out (fun e => by omega)); clear r4 o4 z4)
      | (with_reducible refine loadRow_walk rfl 35 (.tmp 11) rfl w2.heap.size rfl (rvC G1 (.slice A R c) (.slice none 0 0) (.slice none 0 0)) rv_struct (HSZ.out _ _ _ _) 35 R4.out ?_)
      | ((with_reducible refine storeRow_walk rfl 35 (.tmp 10) (.tmp 22) rfl w.heap.size rfl (rvC G1 (.slice A R c) (.slice none 0 0) (.slice none 0 0)) rfl (HSZ.out _ _ _ _) 35 rvZ Q5.out rfl (rv_one _) ?_); intro w6 r6 o6 z6; have R6 := Lib.hid r6; have N6 := Lib.hid o6; clear r6 o6 z6))
    have s1 := Z1.out
    have NN : Only (fun x => x = w2.heap.size ∨ x = w.heap.size) w3 w6 := (N4.out.mono (fun x _ e => .inl e)).trans (N6.out.mono (fun x _ e => .inr e))
    have EG : rn16v B R self peer own = G1 := by
      rw [← HG1.out]
      have : ¬ (0 : Int) < own := of_decide_eq_false g1
      unfold rn16v
      rw [if_neg this]
    rw [EG]
    refine bodyPost_ret (rv_results Tryd.results9 rfl R6.out) rfl ⟨A, c, rfl, own_rebase16 (own_quiet O3.out (fun x hx => NN.block x (O3.out.lt x hx).2 (fun e => by have h1 := (O2.out.lt x hx); omega))) (by omega), Only.below (below_on B1.out B3.out) NN (by have := B3.out.size; omega) (fun x hx e => by omega)⟩
end

section
open Go.ChangeShapes Go.WideShapes Go.ChangeAt Go.RowKit
/-- The reference's giver V says the same as the program's giver G. -/
structure Rel16 (G : Gv) (V : Rv) : Prop where
  B : V.B = G.B
  R : V.R = (G.R : Int)
  peer : V.peer = G.peer
  own : V.own = G.own
  known : V.known = if G.knows then G.known else -1
  knows : 2 ≤ G.st → G.knows = true
  linked : V.linked = G.linked
  free : V.free = G.free
  out : V.out = G.out
  next : V.next = G.next
  tail : V.tail = G.tail
  at_ : V.at_ = (G.st : Int)
  load : G.st ≠ 0 → V.load = G.load
  i : G.st = 8 → V.i = (G.sto : Int)
  left : G.st = 7 → V.left = G.ret
  ans : G.st = 15 → V.ans = G.res
  d : 8 ≤ G.st → G.st ≤ 14 → V.d = tk16 G
  res : G.st ≤ 14 → G.res = 0
  pos : 0 ≤ G.res
/-- The reference's roomy, back, After in numbers. -/
def rroo (V : Rv) : Rv := if 0 < V.left then { V with at_ := 7 } else match V.free with | [] => { V with at_ := 15, ans := 5 } | d :: fs => { V with d := d, free := fs, out := V.out ++ [d], i := 0, at_ := if V.load = [] then 9 else 8 }
def rbck (V : Rv) (x : Int) : Rv := if x ∈ V.out then rroo { V with free := V.free ++ [x], out := V.out.filter (fun y => decide (y ≠ x)), tail := addW V.tail 1, left := V.left - 1 } else { V with at_ := 15, ans := 10 }
def raN (V : Rv) (R : Nat) (x : Int) : Rv × Int :=
  if V.at_ = 1 then (if x ≠ V.known then ({ V with known := x, at_ := 2 }, -1) else if V.linked = false then ({ V with at_ := 5 }, -1) else ({ V with at_ := 6 }, -1))
  else if V.at_ = 4 then (rf16 V R, 8)
  else if V.at_ = 5 then (if x = addW V.own V.known then ({ V with linked := true, at_ := 6 }, -1) else ({ V with at_ := 0 }, 9))
  else if V.at_ = 6 then (if (V.out.length : Int) < subW x V.tail then ({ V with left := subW x V.tail, at_ := 15, ans := 10 }, -1) else (rroo { V with left := subW x V.tail }, -1))
  else if V.at_ = 7 then (rbck V x, -1)
  else if V.at_ = 8 then (if V.i + 1 < (V.load.length : Int) then ({ V with i := V.i + 1 }, -1) else ({ V with i := V.i + 1, at_ := 9 }, -1))
  else if V.at_ = 14 then ({ V with at_ := 15, ans := 0 }, -1)
  else if V.at_ = 15 then (if x ≠ V.known then ({ V with at_ := 0 }, 8) else if V.ans = 0 then ({ V with at_ := 0, next := addW V.next 1 }, 0) else ({ V with at_ := 0 }, V.ans))
  else ({ V with at_ := V.at_ + 1 }, -1)
def rtN (V : Rv) : Tch :=
  if V.at_ = 1 ∨ V.at_ = 15 then (4, V.peer, 0)
  else if V.at_ = 2 then (2, atV13 V.B V.R 3 0 0, 0)
  else if V.at_ = 3 then (2, atV13 V.B V.R 1 0 0, addW V.own V.known)
  else if V.at_ = 5 then (1, atV13 V.B V.R 2 0 0, 0)
  else if V.at_ = 6 then (1, atV13 V.B V.R 4 0 0, 0)
  else if V.at_ = 7 then (1, atV13 V.B V.R 6 (V.tail % V.R) 0, 0)
  else if V.at_ = 8 then (2, atV13 V.B V.R 8 V.d V.i, V.load.getD V.i.toNat 0)
  else if V.at_ = 9 then (2, atV13 V.B V.R 7 V.d 0, (V.load.length : Int))
  else if V.at_ = 10 then (2, atV13 V.B V.R 5 (V.next % V.R) 0, V.d)
  else if V.at_ = 12 then (2, atV13 V.B V.R 3 0 0, addW V.next 1)
  else if V.at_ = 14 then (5, V.peer, 0)
  else (3, 0, 0)
theorem rel16_new (B : Int) (R : Nat) (self peer own : Int) (ho : 0 ≤ own) : Rel16 (new16 B R peer own) (rn16v B R self peer own) := by
  have hk : (if 0 < own then (-1 : Int) else 0) = if (own == 0) = true then (0 : Int) else -1 := by
    by_cases h : own = 0
    · subst h; rfl
    · have : 0 < own := by omega
      rw [if_pos this, if_neg (by simpa using h)]
  exact ⟨rfl, rfl, rfl, rfl, hk, fun h => absurd h (by show ¬ (2 ≤ 0); omega), rfl, rfl, rfl, rfl, rfl, rfl, fun h => absurd rfl h, fun h => absurd h (by show ¬ (0 = 8); omega), fun h => absurd h (by show ¬ (0 = 7); omega), fun h => absurd h (by show ¬ (0 = 15); omega), fun h => absurd h (by show ¬ (8 ≤ 0); omega), fun _ => rfl, Int.le_refl 0⟩
theorem rel16_send {G : Gv} {V : Rv} (h : Rel16 G V) {l : List Int} (he : sendE16 G l = 0) : Rel16 (sendG16 G l) { V with load := l, at_ := 1 } := by
  unfold sendG16
  rw [if_pos he]
  exact ⟨h.B, h.R, h.peer, h.own, h.known, fun h => absurd h (by show ¬ (2 ≤ 1); omega), h.linked, h.free, h.out, h.next, h.tail, rfl, fun _ => rfl, fun h => absurd h (by show ¬ (1 = 8); omega), fun h => absurd h (by show ¬ (1 = 7); omega), fun h => absurd h (by show ¬ (1 = 15); omega), fun h => absurd h (by show ¬ (8 ≤ 1); omega), fun _ => rfl, Int.le_refl 0⟩
/-- A state before the first word. -/
theorem rel16_st {G : Gv} {V : Rv} (h : Rel16 G V) (n : Nat) (hn : n < 7) (h0 : G.st ≠ 0) (h14 : G.st ≤ 14) (hk : 2 ≤ n → G.knows = true) : Rel16 { G with st := n } { V with at_ := (n : Int) } :=
  ⟨h.B, h.R, h.peer, h.own, h.known, hk, h.linked, h.free, h.out, h.next, h.tail, rfl, fun _ => h.load h0, fun h => absurd h (by show ¬ (n = 8); omega), fun h => absurd h (by show ¬ (n = 7); omega), fun h => absurd h (by show ¬ (n = 15); omega), fun h => absurd h (by show ¬ (8 ≤ n); omega), fun _ => h.res h14, h.pos⟩
theorem rel16_idle {G : Gv} {V : Rv} (h : Rel16 G V) : Rel16 (idle16 G) { V with at_ := 0 } :=
  ⟨h.B, h.R, h.peer, h.own, h.known, fun h => absurd h (by show ¬ (2 ≤ 0); omega), h.linked, h.free, h.out, h.next, h.tail, rfl, fun h => absurd rfl h, fun h => absurd h (by show ¬ (0 = 8); omega), fun h => absurd h (by show ¬ (0 = 7); omega), fun h => absurd h (by show ¬ (0 = 15); omega), fun h => absurd h (by show ¬ (8 ≤ 0); omega), fun _ => rfl, Int.le_refl 0⟩
theorem rel16_fin {G : Gv} {V : Rv} (h : Rel16 G V) (hk : G.knows = true) (h0 : G.st ≠ 0) {n : Int} (hn : 0 ≤ n) : Rel16 (fin16 G n) { V with at_ := 15, ans := n } :=
  ⟨h.B, h.R, h.peer, h.own, h.known, fun _ => hk, h.linked, h.free, h.out, h.next, h.tail, rfl, fun _ => h.load h0, fun h => absurd h (by show ¬ (15 = 8); omega), fun h => absurd h (by show ¬ (15 = 7); omega), fun _ => rfl, fun _ h => absurd h (by show ¬ (15 ≤ 14); omega), fun h => absurd h (by show ¬ (15 ≤ 14); omega), hn⟩
theorem rroo_back {V : Rv} (h : 0 < V.left) : rroo V = { V with at_ := 7 } := by unfold rroo; rw [if_pos h]
theorem rroo_full {V : Rv} (h : ¬ 0 < V.left) (hf : V.free = []) : rroo V = { V with at_ := 15, ans := 5 } := by
  unfold rroo
  rw [if_neg h]
  split
  · rfl
  · rename_i h2; rw [hf] at h2; cases h2
theorem rroo_take {V : Rv} {d : Int} {fs : List Int} (h : ¬ 0 < V.left) (hf : V.free = d :: fs) : rroo V = { V with d := d, free := fs, out := V.out ++ [d], i := 0, at_ := if V.load = [] then 9 else 8 } := by
  unfold rroo
  rw [if_neg h]
  split
  · rename_i h2; rw [hf] at h2; cases h2
  · rename_i h2; rw [hf] at h2; injection h2 with a b; subst a b; rfl
theorem roo16_back {G : Gv} (h : 0 < G.ret) : roo16 G = { G with st := 7 } := by unfold roo16; rw [if_pos h]
theorem roo16_full {G : Gv} (h : ¬ 0 < G.ret) (hf : G.free = []) : roo16 G = fin16 G 5 := by
  unfold roo16
  rw [if_neg h, if_neg (by unfold takB16; rw [hf]; decide)]
theorem roo16_take {G : Gv} {d : Int} {fs : List Int} (h : ¬ 0 < G.ret) (hf : G.free = d :: fs) : roo16 G = wri16 { G with free := fs, out := G.out ++ [d] } := by
  unfold roo16
  have ht : takG16 G = { G with free := fs, out := G.out ++ [d] } := by unfold takG16; rw [hf]
  rw [if_neg h, if_pos (by unfold takB16; rw [hf]; rfl), ht]
/-- Behind what came back. -/
theorem rel16_roo {G : Gv} {V : Rv} (h : Rel16 { G with st := 6 } { V with at_ := 6 }) (hl : V.left = G.ret) (hs : G.sto = 0) : Rel16 (roo16 G) (rroo V) := by
  have hk : G.knows = true := h.knows (by show 2 ≤ 6; omega)
  have hld : V.load = G.load := h.load (by show 6 ≠ 0; omega)
  have hrs : G.res = 0 := h.res (by show 6 ≤ 14; omega)
  have hf : V.free = G.free := h.free
  have ho : V.out = G.out := h.out
  by_cases hz : 0 < G.ret
  · rw [roo16_back hz, rroo_back (by omega)]
    exact ⟨h.B, h.R, h.peer, h.own, h.known, fun _ => hk, h.linked, h.free, h.out, h.next, h.tail, rfl, fun _ => hld, fun h => absurd h (by show ¬ (7 = 8); omega), fun _ => hl, fun h => absurd h (by show ¬ (7 = 15); omega), fun h => absurd h (by show ¬ (8 ≤ 7); omega), fun _ => hrs, h.pos⟩
  · cases hfr : G.free with
    | nil =>
      rw [roo16_full hz hfr, rroo_full (by omega) (hf.trans hfr)]
      exact rel16_fin (G := { G with st := 6 }) (n := 5) h hk (by show 6 ≠ 0; omega) (by omega)
    | cons d fs =>
      rw [roo16_take hz hfr, rroo_take (by omega) (hf.trans hfr)]
      have hlast : d = (G.out ++ [d]).getLastD 0 := by simp
      have hout : V.out ++ [d] = G.out ++ [d] := by rw [ho]
      have hsi : (0 : Int) = (G.sto : Int) := by rw [hs]; rfl
      unfold wri16
      by_cases hz : G.load = []
      · have hz1 : G.sto = G.load.length := by rw [hz, hs]; rfl
        have hz2 : V.load = [] := hld.trans hz
        have e1 : (if V.load = [] then (9 : Int) else 8) = 9 := if_pos hz2
        have e2 : (if G.sto = G.load.length then (9 : Nat) else 8) = 9 := if_pos hz1
        show Rel16 { G with free := fs, out := G.out ++ [d], st := if G.sto = G.load.length then 9 else 8 } _
        rw [e1, e2]
        exact ⟨h.B, h.R, h.peer, h.own, h.known, fun _ => hk, h.linked, rfl, hout, h.next, h.tail, rfl, fun _ => hld, fun h => absurd h (by show ¬ (9 = 8); omega), fun h => absurd h (by show ¬ (9 = 7); omega), fun h => absurd h (by show ¬ (9 = 15); omega), fun _ _ => hlast, fun _ => hrs, h.pos⟩
      · have hz1 : ¬ (G.sto = G.load.length) := fun e => hz (List.length_eq_zero_iff.1 (by omega))
        have hz2 : ¬ V.load = [] := fun e => hz (hld.symm.trans e)
        have e1 : (if V.load = [] then (9 : Int) else 8) = 8 := if_neg hz2
        have e2 : (if G.sto = G.load.length then (9 : Nat) else 8) = 8 := if_neg hz1
        show Rel16 { G with free := fs, out := G.out ++ [d], st := if G.sto = G.load.length then 9 else 8 } _
        rw [e1, e2]
        exact ⟨h.B, h.R, h.peer, h.own, h.known, fun _ => hk, h.linked, rfl, hout, h.next, h.tail, rfl, fun _ => hld, fun _ => hsi, fun h => absurd h (by show ¬ (8 = 7); omega), fun h => absurd h (by show ¬ (8 = 15); omega), fun _ _ => hlast, fun _ => hrs, h.pos⟩
theorem upto16_nodupR (n : Nat) : (upto16 n).Nodup := by
  unfold upto16
  rw [List.nodup_iff_pairwise_ne, List.pairwise_map]
  exact (List.nodup_iff_pairwise_ne.1 List.nodup_range).imp (fun h e => h (by omega))
theorem Ok16.out_nodup {G : Gv} (h : Ok16 G) : G.out.Nodup := (List.nodup_append.1 (h.perm.nodup_iff.2 (upto16_nodupR _))).2.1
theorem erase16 {l : List Int} (h : l.Nodup) (x : Int) : l.filter (fun y => decide (y ≠ x)) = l.erase x := by
  rw [h.erase_eq_filter]
  congr 1
  funext y
  by_cases e : y = x <;> simp [e]
/-- Behind an access both say the same again. -/
theorem rel16_aft {G : Gv} {V : Rv} (h : Rel16 G V) (ok : Ok16 G) (x : Int) (hx : 0 ≤ x) (h0 : G.st ≠ 0) : Rel16 (aft16 G x).1 (raN V G.R x).1 ∧ (raN V G.R x).2 = (aft16 G x).2.getD (-1) := by
  have h15 := ok.st
  have hat := h.at_
  have : G.st = 1 ∨ G.st = 4 ∨ G.st = 5 ∨ G.st = 6 ∨ G.st = 7 ∨ G.st = 8 ∨ G.st = 14 ∨ G.st = 15 ∨ ((2 ≤ G.st ∧ G.st ≤ 3) ∨ (9 ≤ G.st ∧ G.st ≤ 13)) := by omega
  unfold aft16 raN
  rcases this with e | e | e | e | e | e | e | e | e
  · have a : V.at_ = 1 := by omega
    simp only [e, a, if_true]
    by_cases hk : G.knows = true
    · have hkn : V.known = G.known := by rw [h.known, if_pos hk]
      by_cases hx2 : x = G.known
      · have hn : askN16 G x = false := by simp [askN16, hk, hx2]
        have hq : ¬ (x ≠ V.known) := by rw [hkn]; exact fun f => f hx2
        rw [if_neg hq]
        have e1 : askG16 G x = G := by unfold askG16; rw [hn]; rfl
        rw [e1]
        rcases Bool.eq_false_or_eq_true G.linked with hl | hl
        ·
          have hs : askS16 G x = 6 := by unfold askS16; rw [hn, hl]; rfl
          have hv : ¬ (V.linked = false) := by rw [h.linked, hl]; simp
          rw [if_neg hv, hs]
          exact ⟨rel16_st h 6 (by omega) h0 (by omega) (fun _ => hk), rfl⟩
        ·
          have hs : askS16 G x = 5 := by unfold askS16; rw [hn, hl]; rfl
          have hv : V.linked = false := by rw [h.linked, hl]
          rw [if_pos hv, hs]
          exact ⟨rel16_st h 5 (by omega) h0 (by omega) (fun _ => hk), rfl⟩
      · have hn : askN16 G x = true := by simp [askN16, hx2]
        have hq : x ≠ V.known := by rw [hkn]; exact hx2
        rw [if_pos hq]
        have e1 : askG16 G x = { G with known := x, knows := true } := by unfold askG16; rw [hn]; rfl
        have hs : askS16 G x = 2 := by unfold askS16; rw [hn]; rfl
        rw [e1, hs]
        exact ⟨⟨h.B, h.R, h.peer, h.own, rfl, fun _ => rfl, h.linked, h.free, h.out, h.next, h.tail, rfl, fun _ => h.load h0, fun h => absurd h (by show ¬ (2 = 8); omega), fun h => absurd h (by show ¬ (2 = 7); omega), fun h => absurd h (by show ¬ (2 = 15); omega), fun h => absurd h (by show ¬ (8 ≤ 2); omega), fun _ => h.res (by omega), h.pos⟩, rfl⟩
    · have hkn : V.known = -1 := by rw [h.known, if_neg hk]
      have hn : askN16 G x = true := by simp [askN16, hk]
      have hq : x ≠ V.known := by rw [hkn]; omega
      rw [if_pos hq]
      have e1 : askG16 G x = { G with known := x, knows := true } := by unfold askG16; rw [hn]; rfl
      have hs : askS16 G x = 2 := by unfold askS16; rw [hn]; rfl
      rw [e1, hs]
      exact ⟨⟨h.B, h.R, h.peer, h.own, rfl, fun _ => rfl, h.linked, h.free, h.out, h.next, h.tail, rfl, fun _ => h.load h0, fun h => absurd h (by show ¬ (2 = 8); omega), fun h => absurd h (by show ¬ (2 = 7); omega), fun h => absurd h (by show ¬ (2 = 15); omega), fun h => absurd h (by show ¬ (8 ≤ 2); omega), fun _ => h.res (by omega), h.pos⟩, rfl⟩
  · have a : V.at_ = 4 := by omega
    rw [if_neg (show ¬ G.st = 1 by omega), if_pos (show G.st = 4 by omega), if_neg (show ¬ V.at_ = 1 by omega), if_pos (show V.at_ = 4 by omega)]
    exact ⟨⟨h.B, h.R, h.peer, h.own, h.known, fun h => absurd h (by show ¬ (2 ≤ 0); omega), rfl, rfl, rfl, rfl, rfl, rfl, fun h => absurd rfl h, fun h => absurd h (by show ¬ (0 = 8); omega), fun h => absurd h (by show ¬ (0 = 7); omega), fun h => absurd h (by show ¬ (0 = 15); omega), fun h => absurd h (by show ¬ (8 ≤ 0); omega), fun _ => rfl, Int.le_refl 0⟩, rfl⟩
  · have a : V.at_ = 5 := by omega
    have hk := h.knows (by omega)
    have hep : addW V.own V.known = ep16 G := by unfold ep16; rw [h.own, h.known, if_pos hk]
    rw [if_neg (show ¬ G.st = 1 by omega), if_neg (show ¬ G.st = 4 by omega), if_pos (show G.st = 5 by omega), if_neg (show ¬ V.at_ = 1 by omega), if_neg (show ¬ V.at_ = 4 by omega), if_pos (show V.at_ = 5 by omega), hep]
    by_cases hq : x = ep16 G
    · rw [if_pos hq, if_pos hq]
      have := rel16_st h 6 (by omega) h0 (by omega) (fun _ => hk)
      exact ⟨⟨this.B, this.R, this.peer, this.own, this.known, this.knows, rfl, this.free, this.out, this.next, this.tail, this.at_, this.load, this.i, this.left, this.ans, this.d, this.res, this.pos⟩, rfl⟩
    · rw [if_neg hq, if_neg hq]
      exact ⟨rel16_idle h, rfl⟩
  · have a : V.at_ = 6 := by omega
    have hk := h.knows (by omega)
    rw [if_neg (show ¬ G.st = 1 by omega), if_neg (show ¬ G.st = 4 by omega), if_neg (show ¬ G.st = 5 by omega), if_pos (show G.st = 6 by omega), if_neg (show ¬ V.at_ = 1 by omega), if_neg (show ¬ V.at_ = 4 by omega), if_neg (show ¬ V.at_ = 5 by omega), if_pos (show V.at_ = 6 by omega)]
    have ht : subW x V.tail = subW x G.tail := by rw [h.tail]
    have h6 : Rel16 { G with ret := subW x G.tail, st := 6 } { V with left := subW x V.tail, at_ := 6 } :=
      ⟨h.B, h.R, h.peer, h.own, h.known, fun _ => hk, h.linked, h.free, h.out, h.next, h.tail, rfl, fun _ => h.load h0, fun h => absurd h (by show ¬ (6 = 8); omega), fun h => absurd h (by show ¬ (6 = 7); omega), fun h => absurd h (by show ¬ (6 = 15); omega), fun h => absurd h (by show ¬ (8 ≤ 6); omega), fun _ => h.res (by omega), h.pos⟩
    by_cases hq : (G.out.length : Int) < subW x G.tail
    · rw [if_pos hq, if_pos (show (V.out.length : Int) < subW x V.tail by rw [h.tail, h.out]; exact hq)]
      exact ⟨rel16_fin (G := { G with ret := subW x G.tail, st := 6 }) (n := 10) h6 hk (by show 6 ≠ 0; omega) (by omega), rfl⟩
    · rw [if_neg hq, if_neg (show ¬ (V.out.length : Int) < subW x V.tail by rw [h.tail, h.out]; exact hq)]
      exact ⟨rel16_roo (G := { G with ret := subW x G.tail }) (V := { V with left := subW x V.tail }) h6 ht (ok.fresh (by omega)), rfl⟩
  · have a : V.at_ = 7 := by omega
    have hk := h.knows (by omega)
    rw [if_neg (show ¬ G.st = 1 by omega), if_neg (show ¬ G.st = 4 by omega), if_neg (show ¬ G.st = 5 by omega), if_neg (show ¬ G.st = 6 by omega), if_pos (show G.st = 7 by omega), if_neg (show ¬ V.at_ = 1 by omega), if_neg (show ¬ V.at_ = 4 by omega), if_neg (show ¬ V.at_ = 5 by omega), if_neg (show ¬ V.at_ = 6 by omega), if_pos (show V.at_ = 7 by omega)]
    unfold rbck
    by_cases hq : x ∈ G.out
    · rw [if_pos hq, if_pos (show x ∈ V.out by rw [h.out]; exact hq)]
      refine ⟨rel16_roo (G := { regG16 G x with ret := G.ret - 1 }) (V := { V with free := V.free ++ [x], out := V.out.filter (fun y => decide (y ≠ x)), tail := addW V.tail 1, left := V.left - 1 }) ⟨h.B, h.R, h.peer, h.own, h.known, fun _ => hk, h.linked, ?_, ?_, h.next, ?_, ?_, fun _ => h.load h0, fun h => absurd h (by show ¬ (6 = 8); omega), fun h => absurd h (by show ¬ (6 = 7); omega), fun h => absurd h (by show ¬ (6 = 15); omega), fun h => absurd h (by show ¬ (8 ≤ 6); omega), fun _ => h.res (by omega), h.pos⟩ ?_ (ok.fresh (by omega)), rfl⟩
      · show V.free ++ [x] = G.free ++ [x]
        rw [h.free]
      · show V.out.filter (fun y => decide (y ≠ x)) = G.out.erase x
        rw [h.out]
        exact erase16 ok.out_nodup x
      · show addW V.tail 1 = addW G.tail 1
        rw [h.tail]
      · rfl
      · show V.left - 1 = G.ret - 1
        rw [h.left e]
    · rw [if_neg hq, if_neg (show ¬ x ∈ V.out by rw [h.out]; exact hq)]
      exact ⟨rel16_fin (n := 10) h hk h0 (by omega), rfl⟩
  · have a : V.at_ = 8 := by omega
    have hk := h.knows (by omega)
    have hw := ok.word e
    have hi := h.i e
    have hld := h.load h0
    rw [if_neg (show ¬ G.st = 1 by omega), if_neg (show ¬ G.st = 4 by omega), if_neg (show ¬ G.st = 5 by omega), if_neg (show ¬ G.st = 6 by omega), if_neg (show ¬ G.st = 7 by omega), if_pos (show G.st = 8 by omega), if_neg (show ¬ V.at_ = 1 by omega), if_neg (show ¬ V.at_ = 4 by omega), if_neg (show ¬ V.at_ = 5 by omega), if_neg (show ¬ V.at_ = 6 by omega), if_neg (show ¬ V.at_ = 7 by omega), if_pos (show V.at_ = 8 by omega)]
    unfold wri16
    have hi1 : V.i + 1 = ((G.sto + 1 : Nat) : Int) := by omega
    by_cases hq : G.sto + 1 = G.load.length
    · have hq2 : ¬ (V.i + 1 < (V.load.length : Int)) := by rw [hld]; omega
      rw [if_neg hq2]
      show Rel16 { G with sto := G.sto + 1, st := if G.sto + 1 = G.load.length then 9 else 8 } _ ∧ _
      rw [if_pos hq]
      exact ⟨⟨h.B, h.R, h.peer, h.own, h.known, fun _ => hk, h.linked, h.free, h.out, h.next, h.tail, rfl, fun _ => hld, fun h => absurd h (by show ¬ (9 = 8); omega), fun h => absurd h (by show ¬ (9 = 7); omega), fun h => absurd h (by show ¬ (9 = 15); omega), fun _ _ => h.d (by omega) (by omega), fun _ => h.res (by omega), h.pos⟩, rfl⟩
    · have hw2 := ok.word e
      have hq2 : (V.i + 1 < (V.load.length : Int)) := by rw [hld]; omega
      rw [if_pos hq2]
      show Rel16 { G with sto := G.sto + 1, st := if G.sto + 1 = G.load.length then 9 else 8 } _ ∧ _
      rw [if_neg hq]
      exact ⟨⟨h.B, h.R, h.peer, h.own, h.known, fun _ => hk, h.linked, h.free, h.out, h.next, h.tail, a, fun _ => hld, fun _ => hi1, fun h => absurd h (by show ¬ (8 = 7); omega), fun h => absurd h (by show ¬ (8 = 15); omega), fun _ _ => h.d (by omega) (by omega), fun _ => h.res (by omega), h.pos⟩, rfl⟩
  · have a : V.at_ = 14 := by omega
    have hk := h.knows (by omega)
    have hrs := h.res (by omega)
    rw [if_neg (show ¬ G.st = 1 by omega), if_neg (show ¬ G.st = 4 by omega), if_neg (show ¬ G.st = 5 by omega), if_neg (show ¬ G.st = 6 by omega), if_neg (show ¬ G.st = 7 by omega), if_neg (show ¬ G.st = 8 by omega), if_neg (show ¬ G.st = 15 by omega), if_neg (show ¬ V.at_ = 1 by omega), if_neg (show ¬ V.at_ = 4 by omega), if_neg (show ¬ V.at_ = 5 by omega), if_neg (show ¬ V.at_ = 6 by omega), if_neg (show ¬ V.at_ = 7 by omega), if_neg (show ¬ V.at_ = 8 by omega), if_pos (show V.at_ = 14 by omega)]
    refine ⟨⟨h.B, h.R, h.peer, h.own, h.known, fun _ => hk, h.linked, h.free, h.out, h.next, h.tail, ?_, fun _ => h.load h0, fun (h : G.st + 1 = 8) => by omega, fun (h : G.st + 1 = 7) => by omega, fun _ => hrs.symm, fun _ (h : G.st + 1 ≤ 14) => by omega, fun (h : G.st + 1 ≤ 14) => by omega, h.pos⟩, rfl⟩
    show (15 : Int) = ((G.st + 1 : Nat) : Int)
    omega
  · have a : V.at_ = 15 := by omega
    have hk := h.knows (by omega)
    have hkn : V.known = G.known := by rw [h.known, if_pos hk]
    have han := h.ans e
    rw [if_neg (show ¬ G.st = 1 by omega), if_neg (show ¬ G.st = 4 by omega), if_neg (show ¬ G.st = 5 by omega), if_neg (show ¬ G.st = 6 by omega), if_neg (show ¬ G.st = 7 by omega), if_neg (show ¬ G.st = 8 by omega), if_pos (show G.st = 15 by omega), if_neg (show ¬ V.at_ = 1 by omega), if_neg (show ¬ V.at_ = 4 by omega), if_neg (show ¬ V.at_ = 5 by omega), if_neg (show ¬ V.at_ = 6 by omega), if_neg (show ¬ V.at_ = 7 by omega), if_neg (show ¬ V.at_ = 8 by omega), if_neg (show ¬ V.at_ = 14 by omega), if_pos (show V.at_ = 15 by omega)]
    unfold judG16 judE16
    by_cases hq : x = G.known
    · have hq2 : ¬ (x ≠ V.known) := fun f => f (by rw [hkn]; exact hq)
      rw [if_neg hq2, if_pos hq]
      by_cases hr : G.res = 0
      · rw [if_pos (show V.ans = 0 by omega), if_pos ⟨hq, hr⟩]
        refine ⟨?_, hr.symm⟩
        have := rel16_idle h
        exact ⟨this.B, this.R, this.peer, this.own, this.known, this.knows, this.linked, this.free, this.out, by show addW V.next 1 = addW G.next 1; rw [h.next], this.tail, this.at_, this.load, this.i, this.left, this.ans, this.d, this.res, this.pos⟩
      · rw [if_neg (show ¬ V.ans = 0 by omega), if_neg (fun f => hr f.2)]
        exact ⟨rel16_idle h, han⟩
    · rw [if_pos (show x ≠ V.known by rw [hkn]; exact hq), if_neg hq, if_neg (fun f => hq f.1)]
      exact ⟨rel16_idle h, rfl⟩
  · have hk := h.knows (by omega)
    rw [if_neg (show ¬ G.st = 1 by omega), if_neg (show ¬ G.st = 4 by omega), if_neg (show ¬ G.st = 5 by omega), if_neg (show ¬ G.st = 6 by omega), if_neg (show ¬ G.st = 7 by omega), if_neg (show ¬ G.st = 8 by omega), if_neg (show ¬ G.st = 15 by omega), if_neg (show ¬ V.at_ = 1 by omega), if_neg (show ¬ V.at_ = 4 by omega), if_neg (show ¬ V.at_ = 5 by omega), if_neg (show ¬ V.at_ = 6 by omega), if_neg (show ¬ V.at_ = 7 by omega), if_neg (show ¬ V.at_ = 8 by omega), if_neg (show ¬ V.at_ = 14 by omega), if_neg (show ¬ V.at_ = 15 by omega)]
    refine ⟨⟨h.B, h.R, h.peer, h.own, h.known, fun _ => hk, h.linked, h.free, h.out, h.next, h.tail, ?_, fun _ => h.load h0, fun (h : G.st + 1 = 8) => by omega, fun (h : G.st + 1 = 7) => by omega, fun (h : G.st + 1 = 15) => by omega, fun (h1 : 8 ≤ G.st + 1) (h2 : G.st + 1 ≤ 14) => h.d (by omega) (by omega), fun _ => h.res (by omega), h.pos⟩, rfl⟩
    show V.at_ + 1 = ((G.st + 1 : Nat) : Int)
    omega
/-- Both make the same access. -/
theorem rel16_tch {G : Gv} {V : Rv} (h : Rel16 G V) (ok : Ok16 G) (h0 : G.st ≠ 0) : rtN V = tch16 G := by
  have h15 := ok.st
  have hat := h.at_
  have : G.st = 1 ∨ G.st = 2 ∨ G.st = 3 ∨ G.st = 4 ∨ G.st = 5 ∨ G.st = 6 ∨ G.st = 7 ∨ G.st = 8 ∨ G.st = 9 ∨ G.st = 10 ∨ G.st = 11 ∨ G.st = 12 ∨ G.st = 13 ∨ G.st = 14 ∨ G.st = 15 := by omega
  unfold rtN tch16 ad16 ep16
  rw [h.B, h.R, h.peer, h.own, h.tail, h.next, hat]
  rcases this with e | e | e | e | e | e | e | e | e | e | e | e | e | e | e
  all_goals simp only [e]
  all_goals simp
  · rw [h.known, if_pos (h.knows (by omega))]
  · rw [h.d (by omega) (by omega), h.i e, h.load h0]
    exact ⟨rfl, by rw [Int.toNat_natCast]⟩
  · rw [h.d (by omega) (by omega), h.load h0]
    exact ⟨rfl, rfl⟩
  · exact h.d (by omega) (by omega)
end

section
open Go.ChangeShapes Go.WideShapes Go.ChangeAt Go.RowKit
section
variable {Af Ao Al : Option Addr} {nf cf no co nl cl : Nat}
/-- What Send leaves where it begins no call. -/
def RSnd (G : Rv) (Af : Option Addr) (nf cf : Nat) (Ao : Option Addr) (no co : Nat) (Al : Option Addr) (nl cl : Nat) (n : Int) (w : World) (e : Ending) (w' : World) : Prop :=
  e = .returned (.tuple #[rvV G (.slice Af nf cf) (.slice Ao no co) (.slice Al nl cl), .int .i64 n]) ∧ Below w.heap.size w w'
set_option maxRecDepth 100000 in
set_option maxHeartbeats 1000000 in
theorem rsend_busy (G : Rv) (As : Option Addr) (n c : Nat) (w : World) (h : G.at_ ≠ 0) :
    Calls Tryd.prog 11 #[rvV G (.slice Af nf cf) (.slice Ao no co) (.slice Al nl cl), .slice As n c] w (RSnd G Af nf cf Ao no co Al nl cl 11 w) := by
  have HSZ := Lib.hid (fun (H : Rv) (a b c : Value) => (rv_size.trans (congrArg some (rv_len H a b c).symm)))
  have HONE := Lib.hid (rv_one (Af := Af) (nf := nf) (cf := cf) (Ao := Ao) (no := no) (co := co) (Al := Al) (nl := nl) (cl := cl))
  have g1 : (G.at_ != 0) = true := by simpa using h
  clear h
  unfold rvV
  go_enter Tryd.func11, Tryd.ntmps11
  go_wp2_with (first
    | ((with_reducible refine box_walk rfl 35 (.tmp 0) rfl (rvC G (.slice Af nf cf) (.slice Ao no co) (.slice Al nl cl)) rfl ?_); intro w1 r1 b1 z1; have R1 := Lib.hid r1; have B1 := Lib.hid b1; have hlt1 := r1.lt; clear r1 b1 z1)
    | ((with_reducible refine alloc_walk (o := ⟨some 4, _, _, _, _, _⟩) rfl 35 rfl _ rv_zero ?_); go_must (intro w2 r2 b2 z2; have R2 := Lib.hid (R1.out.below b2); have Q2 := Lib.hid r2; have B2 := Lib.hid (below_on B1.out b2); have c11 := R2.out.cell 11; simp only [rvC, List.getElem?_cons_zero, List.getElem?_cons_succ] at c11; clear r2 b2 z2))
    | (with_reducible refine loadRow_walk rfl 35 (.tmp 2) rfl w.heap.size rfl (rvC G (.slice Af nf cf) (.slice Ao no co) (.slice Al nl cl)) rv_struct (HSZ.out _ _ _ _) 35 R2.out ?_)
    | ((with_reducible refine storeRow_walk rfl 35 (.tmp 4) (.tmp 11) rfl w1.heap.size rfl (rvC G (.slice Af nf cf) (.slice Ao no co) (.slice Al nl cl)) rfl (HSZ.out _ _ _ _) 35 rvZ Q2.out rfl (HONE.out _) ?_); intro w4 r4 o4 z4; have R4 := Lib.hid r4; have B4 := Lib.hid (Only.below B2.out o4 B2.out.size (fun k hk e => by subst e; omega)); clear r4 o4 z4))
  exact bodyPost_ret (rv_results2 Tryd.results11 rfl rfl R4.out) rfl ⟨rfl, B4.out⟩
set_option maxRecDepth 100000 in
set_option maxHeartbeats 1000000 in
theorem rsend_long (G : Rv) (As : Option Addr) (n c : Nat) (w : World) (h : G.at_ = 0) (hn : 8 < n) :
    Calls Tryd.prog 11 #[rvV G (.slice Af nf cf) (.slice Ao no co) (.slice Al nl cl), .slice As n c] w (RSnd G Af nf cf Ao no co Al nl cl 18 w) := by
  have HSZ := Lib.hid (fun (H : Rv) (a b c : Value) => (rv_size.trans (congrArg some (rv_len H a b c).symm)))
  have HONE := Lib.hid (rv_one (Af := Af) (nf := nf) (cf := cf) (Ao := Ao) (no := no) (co := co) (Al := Al) (nl := nl) (cl := cl))
  have H1 := Lib.hid h
  have g1 : decide ((8 : Int) < (n : Int)) = true := decide_eq_true (by omega)
  clear h hn
  unfold rvV
  go_enter Tryd.func11, Tryd.ntmps11
  go_wp2_with (first
    | ((with_reducible refine box_walk rfl 35 (.tmp 0) rfl (rvC G (.slice Af nf cf) (.slice Ao no co) (.slice Al nl cl)) rfl ?_); intro w1 r1 b1 z1; have R1 := Lib.hid r1; have B1 := Lib.hid b1; have hlt1 := r1.lt; clear r1 b1 z1)
    | ((with_reducible refine alloc_walk (o := ⟨some 4, _, _, _, _, _⟩) rfl 35 rfl _ rv_zero ?_); go_must (intro w2 r2 b2 z2; have R2 := Lib.hid (R1.out.below b2); have Q2 := Lib.hid r2; have B2 := Lib.hid (below_on B1.out b2); have c11 := R2.out.cell 11; simp only [rvC, List.getElem?_cons_zero, List.getElem?_cons_succ] at c11; rw [H1.out] at c11; clear r2 b2 z2))
    | (with_reducible refine loadRow_walk rfl 35 (.tmp 2) rfl w.heap.size rfl (rvC G (.slice Af nf cf) (.slice Ao no co) (.slice Al nl cl)) rv_struct (HSZ.out _ _ _ _) 35 R2.out ?_)
    | ((with_reducible refine storeRow_walk rfl 35 (.tmp 4) (.tmp 15) rfl w1.heap.size rfl (rvC G (.slice Af nf cf) (.slice Ao no co) (.slice Al nl cl)) rfl (HSZ.out _ _ _ _) 35 rvZ Q2.out rfl (HONE.out _) ?_); intro w4 r4 o4 z4; have R4 := Lib.hid r4; have B4 := Lib.hid (Only.below B2.out o4 B2.out.size (fun k hk e => by subst e; omega)); clear r4 o4 z4))
  exact bodyPost_ret (rv_results2 Tryd.results11 rfl rfl R4.out) rfl ⟨rfl, B4.out⟩
set_option maxRecDepth 100000 in
set_option maxHeartbeats 1000000 in
/-- The first k words may be sent, the next one may not. -/
theorem rsend_arg (G : Rv) (v : Value) (l : List Int) (k : Nat) (z : Int) (w : World) (hv : Lies w (fun _ => True) v (ints l)) (h : G.at_ = 0) (hn : l.length ≤ 8) (hk : l[k]? = some z) (hz : okW z = false) (ho : ∀ j u, j < k → l[j]? = some u → okW u = true) :
    Calls Tryd.prog 11 #[rvV G (.slice Af nf cf) (.slice Ao no co) (.slice Al nl cl), v] w (RSnd G Af nf cf Ao no co Al nl cl 2 w) := by
  have HSZ := Lib.hid (fun (H : Rv) (a b c : Value) => (rv_size.trans (congrArg some (rv_len H a b c).symm)))
  have HONE := Lib.hid (rv_one (Af := Af) (nf := nf) (cf := cf) (Ao := Ao) (no := no) (co := co) (Al := Al) (nl := nl) (cl := cl))
  obtain ⟨A, n, c, rfl, HN, -⟩ := lies_open hv
  rw [HN.out] at hn
  have hkn : k < n := by have := (List.getElem?_eq_some_iff.1 hk).1; rw [HN.out] at this; exact this
  have HV := Lib.hid hv
  have HK := Lib.hid hk
  have HZ := Lib.hid hz
  have HO := Lib.hid ho
  have H1 := Lib.hid h
  have g1 : decide ((8 : Int) < (n : Int)) = false := decide_eq_false (by omega)
  clear h hv hk hz ho
  unfold rvV
  go_enter Tryd.func11, Tryd.ntmps11
  go_wp2_with (first
    | ((with_reducible refine box_walk rfl 35 (.tmp 0) rfl (rvC G (.slice Af nf cf) (.slice Ao no co) (.slice Al nl cl)) rfl ?_); intro w1 r1 b1 z1; have R1 := Lib.hid r1; have B1 := Lib.hid b1; have hlt1 := r1.lt; clear r1 b1 z1)
    | ((with_reducible refine alloc_walk (o := ⟨some 4, _, _, _, _, _⟩) rfl 35 rfl _ rv_zero ?_); go_must (intro w2 r2 b2 z2; have R2 := Lib.hid (R1.out.below b2); have Q2 := Lib.hid r2; have B2 := Lib.hid (below_on B1.out b2); have c11 := R2.out.cell 11; simp only [rvC, List.getElem?_cons_zero, List.getElem?_cons_succ] at c11; rw [H1.out] at c11; clear r2 b2 z2)))
  clear c11
  go_loopw [6] (fun iv wr => ∃ i : Nat, i ≤ k ∧ iv = .int .i64 i ∧ w2 = wr) (fun iv _ => k + 1 - (intOf iv).toNat)
  case atStart => exact ⟨0, Nat.zero_le _, rfl, rfl⟩
  case round =>
    obtain ⟨i, hi, rfl, rfl⟩ := hrel
    have hin : decide ((i : Int) < (n : Int)) = true := decide_eq_true (by omega)
    have hin3 : (i : Int) < (n : Int) := by omega
    obtain ⟨x, hx⟩ : ∃ x, l[i]? = some x := ⟨_, List.getElem?_eq_getElem (by rw [HN.out]; omega)⟩
    have HX := Lib.hid hx
    obtain ⟨gl, ol, rfl, -, hgl, hlc⟩ := lies_at (HV.out.below B2.out) hx
    clear hx
    by_cases hik : i < k
    · have hok := HO.out i x hik HX.out
      have f1 : decide (x < 0) = false := by unfold okW at hok; simp at hok ⊢; omega
      have f2 : decide ((65535 : Int) < x) = false := by unfold okW at hok; simp at hok ⊢; omega
      clear hok
      go_wp2
      go_roundw
      case rel => exact ⟨i + 1, by omega, by go_num, trivial⟩
      case measure => simp [intOf]; omega
    · obtain rfl : k = i := by omega
      obtain rfl : z = x := by have a := HK.out; have b := HX.out; rw [a] at b; exact Option.some.inj b
      have hz := HZ.out
      have f12 : decide (z < 0) = true ∨ (decide (z < 0) = false ∧ decide ((65535 : Int) < z) = true) := by
        unfold okW at hz
        simp at hz ⊢
        omega
      clear hz
      rcases f12 with f1 | ⟨f1, f2⟩
      all_goals go_wp2_with (first
        | (with_reducible refine loadRow_walk rfl 35 (.tmp 2) rfl w.heap.size rfl (rvC G (.slice Af nf cf) (.slice Ao no co) (.slice Al nl cl)) rv_struct (HSZ.out _ _ _ _) 35 R2.out ?_)
        | ((with_reducible refine storeRow_walk rfl 35 (.tmp 4) (.tmp 34) rfl w1.heap.size rfl (rvC G (.slice Af nf cf) (.slice Ao no co) (.slice Al nl cl)) rfl (HSZ.out _ _ _ _) 35 rvZ Q2.out rfl (HONE.out _) ?_); intro w4 r4 o4 z4; have R4 := Lib.hid r4; have B4 := Lib.hid (Only.below B2.out o4 B2.out.size (fun k hk e => by subst e; omega)); clear r4 o4 z4))
      all_goals exact bodyPost_ret (rv_results2 Tryd.results11 rfl rfl R4.out) rfl ⟨rfl, B4.out⟩
end
end

section
open Go.ChangeShapes Go.WideShapes Go.ChangeAt Go.RowKit
section
variable {Af Ao Al : Option Addr} {nf cf no co nl cl : Nat}
set_option maxRecDepth 100000 in
set_option maxHeartbeats 2000000 in
theorem rsend_ok (G : Rv) (v : Value) (l : List Int) (w : World) (hv : Lies w (fun _ => True) v (ints l)) (h : G.at_ = 0) (hn : l.length ≤ 8) (h0 : l ≠ []) (ho : ∀ u ∈ l, okW u = true) :
    Calls Tryd.prog 11 #[rvV G (.slice Af nf cf) (.slice Ao no co) (.slice Al nl cl), v] w fun e w' => ∃ A' c', e = .returned (.tuple #[rvV { G with load := l, at_ := 1 } (.slice Af nf cf) (.slice Ao no co) (.slice A' l.length c'), .int .i64 0]) ∧ w'.ownsRow w.heap.size 3 1 (.slice A' l.length c') l.length (ints l) ∧ Below w.heap.size w w' := by
  obtain ⟨i0, hi0, hz0, hz1, hz2⟩ := info_parts int_info
  have HSZ := Lib.hid (fun (H : Rv) (a b c : Value) => (rv_size.trans (congrArg some (rv_len H a b c).symm)))
  obtain ⟨A, n, c, rfl, HN, -⟩ := lies_open hv
  have hn0 : 0 < n := by have := HN.out; cases l with | nil => exact absurd rfl h0 | cons a b => simp at this; omega
  rw [HN.out] at hn ⊢
  have HV := Lib.hid hv
  have HO := Lib.hid ho
  have H1 := Lib.hid h
  have g1 : decide ((8 : Int) < (n : Int)) = false := decide_eq_false (by omega)
  clear h hv ho h0
  unfold rvV
  go_enter Tryd.func11, Tryd.ntmps11
  go_wp2_with (first
    | ((with_reducible refine box_walk rfl 35 (.tmp 0) rfl (rvC G (.slice Af nf cf) (.slice Ao no co) (.slice Al nl cl)) rfl ?_); intro w1 r1 b1 z1; have R1 := Lib.hid r1; have B1 := Lib.hid b1; have hlt1 := r1.lt; clear r1 b1 z1)
    | ((with_reducible refine alloc_walk (o := ⟨some 4, _, _, _, _, _⟩) rfl 35 rfl _ rv_zero ?_); go_must (intro w2 r2 b2 z2; have R2 := Lib.hid (R1.out.below b2); have Q2 := Lib.hid r2; have B2 := Lib.hid (below_on B1.out b2); have Z2 := Lib.hid z2; have c11 := R2.out.cell 11; simp only [rvC, List.getElem?_cons_zero, List.getElem?_cons_succ] at c11; rw [H1.out] at c11; clear r2 b2 z2)))
  clear c11
  go_loopw [6] (fun iv wr => ∃ i : Nat, i ≤ n ∧ iv = .int .i64 i ∧ w2 = wr) (fun iv _ => n + 1 - (intOf iv).toNat)
  case atStart => exact ⟨0, Nat.zero_le _, rfl, rfl⟩
  case round =>
    obtain ⟨i, hi, rfl, rfl⟩ := hrel
    by_cases hik : i < n
    · have hin : decide ((i : Int) < (n : Int)) = true := decide_eq_true (by omega)
      have hin3 : (i : Int) < (n : Int) := by omega
      obtain ⟨x, hx⟩ : ∃ x, l[i]? = some x := ⟨_, List.getElem?_eq_getElem (by rw [HN.out]; omega)⟩
      have hok := HO.out x (List.mem_of_getElem? hx)
      obtain ⟨gl, ol, rfl, -, hgl, hlc⟩ := lies_at (HV.out.below B2.out) hx
      have f1 : decide (x < 0) = false := by unfold okW at hok; simp at hok ⊢; omega
      have f2 : decide ((65535 : Int) < x) = false := by unfold okW at hok; simp at hok ⊢; omega
      clear hok hx
      go_wp2
      go_roundw
      case rel => exact ⟨i + 1, by omega, by go_num, trivial⟩
      case measure => simp [intOf]; omega
    · obtain rfl : n = i := by omega
      have hin : decide ((n : Int) < (n : Int)) = false := by simp
      obtain ⟨A', c', hve, hcell⟩ := HV.out.below B2.out
      injection hve with e1 e2 e3
      clear e2
      subst e1 e3
      obtain ⟨gl, ol, rfl, -, hgl, hlc⟩ := hcell (by rw [ints_len, HN.out]; omega)
      have HC := Lib.hid (show ∀ j u, (ints l)[j]? = some u → w2.cell? ((⟨gl, ol, none⟩ : Addr).add j) = some u from fun j u hu => by rw [Addr.add_lit]; exact hlc j u hu)
      have HL : Hid ((ints l).length = n * 1) := Lib.hid (by rw [ints_len, HN.out]; omega)
      have HI : Hid (∀ u ∈ ints l, u.oneCell' = true) := Lib.hid (ints_one _)
      have hs2 := Z2.out
      have hs1 := B1.out.size
      clear hcell hlc hi hik
      go_wp2_with (first
        | (at_builtin; go_must ((refine app14_walk rfl (.tmp 35) (.tmp 36) 33 rfl w2.heap.size 3 i0 _ 1 8 Tryd.underlying33 hi0 hz0 hz1 hz2 rfl (by omega) (.slice none 0 0) 0 [] rfl (World.ownsRow_nil _ _ _ _) ⟨gl, ol, none⟩ n c (ints l) rfl HL.out HC.out HI.out (by unfold maxLen; omega) (by omega) (by omega) ?_); intro v3 w3 hown3 hg3 hat3; rw [Nat.zero_add, List.nil_append] at hown3; obtain ⟨g', cap', rfl, hbg, hlt'⟩ := hown3.form (by omega); have o3 : Only (fun x => (Value.slice none 0 0).ownBlock = some x) w2 w3 := Only.of_own hg3; have R3 := Lib.hid (R2.out.only o3 (fun e => by cases e)); have Q3 := Lib.hid (Q2.out.only o3 (fun e => by cases e)); have B3 : Hid (Below w2.heap.size w2 w3) := Lib.hid (Only.below (Below.refl _ _) o3 (Nat.le_refl _) (fun x hx e => by cases e)); have O3 := Lib.hid hown3; have c11 := R3.out.cell 11; have f11 := R3.out.soft 11; have c16 := R3.out.cell 16; have f16 := R3.out.soft 16; simp only [rvC, List.getElem?_cons_zero, List.getElem?_cons_succ] at c11 c16; have R5 : Hid (Row ((w3.setCell ⟨w.heap.size, 16, none⟩ (.slice (some ⟨g', 0, none⟩) n cap')).setCell ⟨w.heap.size, 11, none⟩ (.int .i64 1)) w.heap.size 35 (rvC { G with load := l, at_ := 1 } (.slice Af nf cf) (.slice Ao no co) (.slice (some ⟨g', 0, none⟩) n cap'))) := Lib.hid ((R3.out.put 16 (.slice (some ⟨g', 0, none⟩) n cap')).put 11 (.int .i64 1)); have Q5 := Lib.hid ((Q3.out.far (p := ⟨w.heap.size, 16, none⟩) (Nat.ne_of_gt hlt1) (.slice (some ⟨g', 0, none⟩) n cap')).far (p := ⟨w.heap.size, 11, none⟩) (Nat.ne_of_gt hlt1) (.int .i64 1)); clear hown3 hg3 hat3 o3))
        | (with_reducible refine loadRow_walk rfl 35 (.tmp 2) rfl w.heap.size rfl (rvC { G with load := l, at_ := 1 } (.slice Af nf cf) (.slice Ao no co) (.slice (some ⟨g', 0, none⟩) n cap')) rv_struct (HSZ.out _ _ _ _) 35 R5.out ?_)
        | ((with_reducible refine storeRow_walk rfl 35 (.tmp 4) (.tmp 41) rfl w1.heap.size rfl (rvC { G with load := l, at_ := 1 } (.slice Af nf cf) (.slice Ao no co) (.slice (some ⟨g', 0, none⟩) n cap')) rfl (HSZ.out _ _ _ _) 35 rvZ Q5.out rfl (rv_one _) ?_); intro w4 r4 o4 z4; have R4 := Lib.hid r4; have N4 := Lib.hid o4; clear r4 o4 z4))
      have NN : Only (fun x => x = w.heap.size ∨ x = w1.heap.size) w3 w4 := (((Only.refl (fun x => x = w.heap.size ∨ x = w1.heap.size) w3).setCell (p := ⟨w.heap.size, 16, none⟩) (.inl (.inl rfl)) _).setCell (p := ⟨w.heap.size, 11, none⟩) (.inl (.inl rfl)) _).trans (N4.out.mono (fun x _ e => .inr e))
      have s3 := B3.out.size
      exact bodyPost_ret (rv_results2 Tryd.results11 rfl rfl R4.out) rfl ⟨_, _, rfl, own_rebase16 (own_quiet O3.out (fun x hx => NN.block x (O3.out.lt x hx).2 (fun e => by have := (O3.out.lt x hx).1; omega))) (by omega), Only.below (below_on B2.out B3.out) NN (by omega) (fun x hx e => by omega)⟩
end
end

section
open Go.ChangeShapes Go.WideShapes Go.ChangeAt Go.RowKit
/-- What a call leaves that answers the reference's giver, alone or with a number. -/
def RVP (P : Nat → Prop) (G : Rv) (w : World) (e : Ending) (w' : World) : Prop :=
  ∃ Af nf cf Ao no co Al nl cl, e = .returned (rvV G (.slice Af nf cf) (.slice Ao no co) (.slice Al nl cl)) ∧ RvL w' (fun x => P x ∨ w.heap.size ≤ x) G (.slice Af nf cf) (.slice Ao no co) (.slice Al nl cl) ∧ Below w.heap.size w w'
def RVA (P : Nat → Prop) (G : Rv) (n : Int) (w : World) (e : Ending) (w' : World) : Prop :=
  ∃ Af nf cf Ao no co Al nl cl, e = .returned (.tuple #[rvV G (.slice Af nf cf) (.slice Ao no co) (.slice Al nl cl), .int .i64 n]) ∧ RvL w' (fun x => P x ∨ w.heap.size ≤ x) G (.slice Af nf cf) (.slice Ao no co) (.slice Al nl cl) ∧ Below w.heap.size w w'
/-- A slice without its first element. -/
theorem slice_tail (g o n c : Nat) (h1 : 1 ≤ n) (hn : n ≤ c) : ∃ b p, (∀ W, (Instr.slice 33 (.slice (some ⟨g, o, none⟩) n c) (some (.int .i64 1)) none none).run Tryd.prog W = .ok (.slice (some ⟨b, p, none⟩) (n - 1) (c - 1)) W) ∧ (1 < n → b = g ∧ p = o + 1) := by
  have hz : ∀ W, (sizeOf (Tryd.prog.elem 33)).run Tryd.prog W = .ok 1 W := fun W => by
    have : Tryd.prog.elem 33 = 3 := by kernel_rfl
    rw [this]
    obtain ⟨i, hi, hs⟩ := Option.map_eq_some_iff.1 int_size
    simp [sizeOf, typeInfo, hi, hs]
  by_cases hc : c = 1
  · refine ⟨g, o, fun W => ?_, fun h => absurd h (by omega)⟩
    rw [run_slice_l (P := Tryd.prog) (w := W) 33 (some ⟨g, o, none⟩) n c (by kernel_rfl) .i64 (1 : Int) (by omega) (by omega), hz]
    simp [Result.andThen, sliced, hc]
  · refine ⟨g, o + 1, fun W => ?_, fun h => ⟨rfl, rfl⟩⟩
    rw [run_slice_l (P := Tryd.prog) (w := W) 33 (some ⟨g, o, none⟩) n c (by kernel_rfl) .i64 (1 : Int) (by omega) (by omega), hz]
    simp [Result.andThen, sliced, hc, Addr.add_lit]
theorem lies_tail {w : World} {P : Nat → Prop} {g o n c b p : Nat} {d : Int} {fs : List Int} (h : Lies w P (.slice (some ⟨g, o, none⟩) n c) (ints (d :: fs))) (hb : 1 < n → b = g ∧ p = o + 1) : Lies w P (.slice (some ⟨b, p, none⟩) (n - 1) (c - 1)) (ints fs) := by
  obtain ⟨A', c', hv, hA⟩ := h
  injection hv with e1 e2 e3
  rw [ints_len] at e2 hA
  simp only [List.length_cons] at e2 hA
  refine ⟨_, _, by rw [ints_len, e2]; rfl, fun hp => ?_⟩
  rw [ints_len] at hp
  obtain ⟨g', o', hg, hP, hlt, hcell⟩ := hA (by omega)
  rw [← e1] at hg
  injection hg with hg
  injection hg with hg ho
  obtain ⟨rfl, rfl⟩ := hb (by omega)
  subst hg ho
  refine ⟨_, _, rfl, hP, hlt, fun j u hu => ?_⟩
  have := hcell (j + 1) u hu
  rw [show o + 1 + j = o + (j + 1) by omega]
  exact this
section
variable {Af Ao Al : Option Addr} {nf cf no co nl cl : Nat}
set_option maxRecDepth 100000 in
set_option maxHeartbeats 4000000 in
theorem rroomy_take_empty (P : Nat → Prop) (G : Rv) (d : Int) (fs : List Int) (w : World) (r : RvL w P G (.slice Af nf cf) (.slice Ao no co) (.slice Al nl cl)) (hf : G.free = d :: fs) (h : ¬ 0 < G.left) (hb : G.out.length ≤ 100) (hl : G.load = []) :
    Calls Tryd.prog 52 #[rvV G (.slice Af nf cf) (.slice Ao no co) (.slice Al nl cl)] w (RVP P { G with d := d, free := fs, out := G.out ++ [d], i := 0, at_ := 9 } w) := by
  obtain ⟨i0, hi0, hz0, hz1, hz2⟩ := info_parts int_info
  have HSZ := Lib.hid (fun (H : Rv) (a b c : Value) => (rv_size.trans (congrArg some (rv_len H a b c).symm)))
  have g1 : decide ((0 : Int) < G.left) = false := decide_eq_false h
  obtain ⟨_, _, _, rf, hn1, hL1⟩ := lies_open r.free
  injection rf with e1 e2 e3
  subst e1 e2 e3
  obtain ⟨_, _, _, rf, hn2, hL2⟩ := lies_open r.out
  injection rf with e1 e2 e3
  subst e1 e2 e3
  obtain ⟨_, _, _, rf, hn3, hL3⟩ := lies_open r.load
  injection rf with e1 e2 e3
  subst e1 e2 e3
  have k1 : G.free.length = nf := hn1.out
  have k2 : G.out.length = no := hn2.out
  have k3 : G.load.length = nl := hn3.out
  have hnf : 1 ≤ nf := by rw [← k1, hf]; simp
  obtain ⟨gl, ol, rfl, hPg, hglt, hc0⟩ := lies_at r.free (k := 0) (x := d) (by rw [hf]; rfl)
  obtain ⟨tb, tp, hsl, htl⟩ := slice_tail gl ol nf cf hnf r.cf
  have hlf := r.free
  rw [hf] at hlf
  have T1 := Lib.hid (lies_tail hlf htl)
  have g2 : ((nf : Int) == 0) = false := by simp; omega
  have g3 : (0 : Int) < (nf : Int) := by omega
  have g4 : ((nl : Int) == 0) = true := by
    rw [← k3, hl]; rfl
  have HR := Lib.hid r
  have HL2 := Lib.hid (ints_one G.out)
  have HC2 := Lib.hid r.co
  rw [k2] at hb
  have KC0 := Lib.hid hc0
  have HCF := Lib.hid (show nf - 1 ≤ cf - 1 by have : nf ≤ cf := r.cf; omega)
  have HGL := Lib.hid hglt
  clear h hf k1 k2 k3 r hlf htl hn1 hn2 hn3 hL1 hL2 hL3 hPg hc0 hl hglt
  unfold rvV
  go_enter Tryd.func52, Tryd.ntmps52
  go_wp2_with (first
    | ((with_reducible refine box_walk rfl 35 (.tmp 0) rfl (rvC G (.slice (some ⟨gl, ol, none⟩) nf cf) (.slice Ao no co) (.slice Al nl cl)) rfl ?_); intro w1 r1 b1 z1; have R1 := Lib.hid r1; have B1 := Lib.hid b1; have hlt1 := r1.lt; clear r1 b1 z1)
    | ((with_reducible refine alloc_walk (o := ⟨some 2, _, _, _, _, _⟩) rfl 35 rfl _ rv_zero ?_); go_must (intro w2 r2 b2 z2; have R2 := Lib.hid (R1.out.below b2); have Q2 := Lib.hid r2; have Z2 := Lib.hid z2; have B2 := Lib.hid (below_on B1.out b2); have q0 : w2.cell? ⟨gl, ol, none⟩ = some (.int .i64 d) := (B2.out.cell HGL.out).trans KC0.out; have c7 := R2.out.cell 7; have f7 := R2.out.soft 7; have c8 := R2.out.cell 8; have f8 := R2.out.soft 8; have c11 := R2.out.cell 11; have f11 := R2.out.soft 11; have c12 := R2.out.cell 12; have f12 := R2.out.soft 12; have c13 := R2.out.cell 13; have f13 := R2.out.soft 13; have c15 := R2.out.cell 15; have f15 := R2.out.soft 15; have c16 := R2.out.cell 16; have f16 := R2.out.soft 16; simp only [rvC, List.getElem?_cons_zero, List.getElem?_cons_succ] at c7 c8 c11 c12 c13 c15 c16; have R3 : Hid (Row ((w2.setCell ⟨w.heap.size, 15, none⟩ (.int .i64 d)).setCell ⟨w.heap.size, 7, none⟩ (.slice (some ⟨tb, tp, none⟩) (nf - 1) (cf - 1))) w.heap.size 35 (rvC { G with d := d, free := fs } (.slice (some ⟨tb, tp, none⟩) (nf - 1) (cf - 1)) (.slice Ao no co) (.slice Al nl cl))) := Lib.hid ((R2.out.put 15 (.int .i64 d)).put 7 (.slice (some ⟨tb, tp, none⟩) (nf - 1) (cf - 1))); have Q3 := Lib.hid ((Q2.out.far (p := ⟨w.heap.size, 15, none⟩) (Nat.ne_of_gt hlt1) (.int .i64 d)).far (p := ⟨w.heap.size, 7, none⟩) (Nat.ne_of_gt hlt1) (.slice (some ⟨tb, tp, none⟩) (nf - 1) (cf - 1))); have B3 : Hid (Below w.heap.size w ((w2.setCell ⟨w.heap.size, 15, none⟩ (.int .i64 d)).setCell ⟨w.heap.size, 7, none⟩ (.slice (some ⟨tb, tp, none⟩) (nf - 1) (cf - 1)))) := Lib.hid ((B2.out.setCell (p := ⟨w.heap.size, 15, none⟩) (Nat.le_refl _) (.int .i64 d)).setCell (p := ⟨w.heap.size, 7, none⟩) (Nat.le_refl _) (.slice (some ⟨tb, tp, none⟩) (nf - 1) (cf - 1))); clear r2 b2 z2))
    | (at_builtin; (refine app_walk _ rfl (.tmp 24) (.tmp 26) 33 rfl w2.heap.size 3 i0 _ 8 Tryd.underlying33 hi0 hz0 hz1 hz2 rfl (.slice none 0 0) 0 [] rfl (World.ownsRow_nil _ _ _ _) P Ao no co (ints G.out) rfl (HR.out.out.below B3.out) HC2.out HL2.out (by unfold maxLen; omega) (by omega) (by simp) ?_); go_must (intro v5 w5 hown5 hg5 hat5; rw [Nat.zero_add, List.nil_append] at hown5; obtain ⟨A5, u5, rfl⟩ := own_open14 hown5; have o5 : Only (fun x => (Value.slice none 0 0).ownBlock = some x) _ w5 := Only.of_own hg5; have R5 := Lib.hid (R3.out.only o5 (fun e => by cases e)); have Q5 := Lib.hid (Q3.out.only o5 (fun e => by cases e)); have B5 : Hid (Below w.heap.size w w5) := Lib.hid (Only.below B3.out o5 B3.out.size (fun x hx e => by cases e)); have O5 := Lib.hid hown5; have S5 := Lib.hid o5.size; clear c7 c8 c11 c12 c13 c15 c16 f7 f8 f11 f12 f13 f15 f16; have c7 := R5.out.cell 7; have f7 := R5.out.soft 7; have c8 := R5.out.cell 8; have f8 := R5.out.soft 8; have c11 := R5.out.cell 11; have f11 := R5.out.soft 11; have c12 := R5.out.cell 12; have f12 := R5.out.soft 12; have c13 := R5.out.cell 13; have f13 := R5.out.soft 13; have c15 := R5.out.cell 15; have f15 := R5.out.soft 15; have c16 := R5.out.cell 16; have f16 := R5.out.soft 16; simp only [rvC, List.getElem?_cons_zero, List.getElem?_cons_succ] at c7 c8 c11 c12 c13 c15 c16; clear hown5 hg5 hat5 o5))
    | (at_builtin; (refine app14_walk rfl (.tmp 28) (.tmp 31) 33 rfl w2.heap.size 3 i0 _ 1 8 Tryd.underlying33 hi0 hz0 hz1 hz2 rfl (by omega) _ _ _ rfl (O5.out.alloc _) ⟨_, 0, none⟩ 1 1 [.int .i64 d] rfl rfl (cells_new14 _ _ _ _ (by simp)) (by intro u hu; simp at hu; subst hu; rfl) (by unfold maxLen; omega) (by omega) (by have := S5.out; simp at this ⊢; omega) ?_); go_must (intro v7 w7 hown7 hg7 hat7; obtain ⟨g7, u7, rfl, hbg, hlt'⟩ := hown7.form (by omega); have s1 := B1.out.size; have s2 := Z2.out; have hbw : w.heap.size < w2.heap.size := (by omega); have o7 : Only (fun x => (Value.slice A5 no u5).ownBlock = some x) _ w7 := Only.of_own hg7; have R7 := Lib.hid ((R5.out.below (below_al _ _)).only o7 (fun e => by have := (O5.out.lt _ e).1; omega)); have Q7 := Lib.hid ((Q5.out.below (below_al _ _)).only o7 (fun e => by have := (O5.out.lt _ e).1; omega)); have B7 : Hid (Below w.heap.size w w7) := Lib.hid (Only.below (below_on B5.out (below_al _ _)) o7 (by have := B5.out.size; simp; omega) (fun x hx e => by have := (O5.out.lt x e).1; omega)); have O7 : Hid (w7.ownsRow w2.heap.size 3 1 (.slice (some ⟨g7, 0, none⟩) (no + 1) u7) (no + 1) (ints (G.out ++ [d]))) := Lib.hid (by rw [ints_append]; exact hown7); clear c7 c8 c11 c12 c13 c15 c16 f7 f8 f11 f12 f13 f15 f16; have c7 := R7.out.cell 7; have f7 := R7.out.soft 7; have c8 := R7.out.cell 8; have f8 := R7.out.soft 8; have c11 := R7.out.cell 11; have f11 := R7.out.soft 11; have c12 := R7.out.cell 12; have f12 := R7.out.soft 12; have c13 := R7.out.cell 13; have f13 := R7.out.soft 13; have c15 := R7.out.cell 15; have f15 := R7.out.soft 15; have c16 := R7.out.cell 16; have f16 := R7.out.soft 16; simp only [rvC, List.getElem?_cons_zero, List.getElem?_cons_succ] at c7 c8 c11 c12 c13 c15 c16; have R8 : Hid (Row ((((w7.setCell ⟨w.heap.size, 8, none⟩ (.slice (some ⟨g7, 0, none⟩) (no + 1) u7)).setCell ⟨w.heap.size, 11, none⟩ (.int .i64 8)).setCell ⟨w.heap.size, 12, none⟩ (.int .i64 0)).setCell ⟨w.heap.size, 11, none⟩ (.int .i64 9)) w.heap.size 35 (rvC { G with d := d, free := fs, out := G.out ++ [d], i := 0, at_ := 9 } (.slice (some ⟨tb, tp, none⟩) (nf - 1) (cf - 1)) (.slice (some ⟨g7, 0, none⟩) (no + 1) u7) (.slice Al nl cl))) := Lib.hid ((((R7.out.put 8 (.slice (some ⟨g7, 0, none⟩) (no + 1) u7)).put 11 (.int .i64 8)).put 12 (.int .i64 0)).put 11 (.int .i64 9)); have Q8 := Lib.hid ((((Q7.out.far (p := ⟨w.heap.size, 8, none⟩) (Nat.ne_of_gt hlt1) (.slice (some ⟨g7, 0, none⟩) (no + 1) u7)).far (p := ⟨w.heap.size, 11, none⟩) (Nat.ne_of_gt hlt1) (.int .i64 8)).far (p := ⟨w.heap.size, 12, none⟩) (Nat.ne_of_gt hlt1) (.int .i64 0)).far (p := ⟨w.heap.size, 11, none⟩) (Nat.ne_of_gt hlt1) (.int .i64 9)); clear hown7 hg7 hat7 o7 s1 s2 hbw hbg hlt'))
    | (with_reducible refine loadRow_walk rfl 35 (.tmp 1) rfl w.heap.size rfl (rvC { G with d := d, free := fs, out := G.out ++ [d], i := 0, at_ := 9 } (.slice (some ⟨tb, tp, none⟩) (nf - 1) (cf - 1)) (.slice (some ⟨g7, 0, none⟩) (no + 1) u7) (.slice Al nl cl)) rv_struct (HSZ.out _ _ _ _) 35 R8.out ?_)
    | ((with_reducible refine storeRow_walk rfl 35 (.tmp 2) (.tmp 41) rfl w1.heap.size rfl (rvC { G with d := d, free := fs, out := G.out ++ [d], i := 0, at_ := 9 } (.slice (some ⟨tb, tp, none⟩) (nf - 1) (cf - 1)) (.slice (some ⟨g7, 0, none⟩) (no + 1) u7) (.slice Al nl cl)) rfl (HSZ.out _ _ _ _) 35 rvZ Q8.out rfl (rv_one _) ?_); intro w4 r4 o4 z4; have R4 := Lib.hid r4; have N4 := Lib.hid o4; clear r4 o4 z4))
  have NN : Only (fun x => x = w.heap.size ∨ x = w1.heap.size) w7 w4 := (((((Only.refl (fun x => x = w.heap.size ∨ x = w1.heap.size) w7).setCell (p := ⟨w.heap.size, 8, none⟩) (.inl (.inl rfl)) _).setCell (p := ⟨w.heap.size, 11, none⟩) (.inl (.inl rfl)) _).setCell (p := ⟨w.heap.size, 12, none⟩) (.inl (.inl rfl)) _).setCell (p := ⟨w.heap.size, 11, none⟩) (.inl (.inl rfl)) _).trans (N4.out.mono (fun x _ e => .inr e))
  have s1 := B1.out.size
  have s2 := Z2.out
  have hlt2 : w1.heap.size < w2.heap.size := by omega
  have B4 : Below w.heap.size w w4 := Only.below B7.out NN B7.out.size (fun x hx e => by omega)
  have O4 := own_quiet O7.out (fun x hx => NN.block x (O7.out.lt x hx).2 (fun e => by have := (O7.out.lt x hx).1; omega))
  exact bodyPost_ret (rv_results Tryd.results52 rfl R4.out) rfl ⟨_, _, _, _, _, _, _, _, _, rfl, ⟨(T1.out.below B4).weak (fun x _ h => .inl h), (Lies.of_own O4).weak (fun x _ h => .inr (by omega)), (HR.out.load.below B4).weak (fun x _ h => .inl h), HCF.out, CapOk.of_own O4, HR.out.cl⟩, B4⟩
set_option maxRecDepth 100000 in
set_option maxHeartbeats 4000000 in
theorem rroomy_take_some (P : Nat → Prop) (G : Rv) (d : Int) (fs : List Int) (w : World) (r : RvL w P G (.slice Af nf cf) (.slice Ao no co) (.slice Al nl cl)) (hf : G.free = d :: fs) (h : ¬ 0 < G.left) (hb : G.out.length ≤ 100) (hl : G.load ≠ []) :
    Calls Tryd.prog 52 #[rvV G (.slice Af nf cf) (.slice Ao no co) (.slice Al nl cl)] w (RVP P { G with d := d, free := fs, out := G.out ++ [d], i := 0, at_ := 8 } w) := by
  obtain ⟨i0, hi0, hz0, hz1, hz2⟩ := info_parts int_info
  have HSZ := Lib.hid (fun (H : Rv) (a b c : Value) => (rv_size.trans (congrArg some (rv_len H a b c).symm)))
  have g1 : decide ((0 : Int) < G.left) = false := decide_eq_false h
  obtain ⟨_, _, _, rf, hn1, hL1⟩ := lies_open r.free
  injection rf with e1 e2 e3
  subst e1 e2 e3
  obtain ⟨_, _, _, rf, hn2, hL2⟩ := lies_open r.out
  injection rf with e1 e2 e3
  subst e1 e2 e3
  obtain ⟨_, _, _, rf, hn3, hL3⟩ := lies_open r.load
  injection rf with e1 e2 e3
  subst e1 e2 e3
  have k1 : G.free.length = nf := hn1.out
  have k2 : G.out.length = no := hn2.out
  have k3 : G.load.length = nl := hn3.out
  have hnf : 1 ≤ nf := by rw [← k1, hf]; simp
  obtain ⟨gl, ol, rfl, hPg, hglt, hc0⟩ := lies_at r.free (k := 0) (x := d) (by rw [hf]; rfl)
  obtain ⟨tb, tp, hsl, htl⟩ := slice_tail gl ol nf cf hnf r.cf
  have hlf := r.free
  rw [hf] at hlf
  have T1 := Lib.hid (lies_tail hlf htl)
  have g2 : ((nf : Int) == 0) = false := by simp; omega
  have g3 : (0 : Int) < (nf : Int) := by omega
  have g4 : ((nl : Int) == 0) = false := by
    cases hq : G.load with | nil => exact absurd hq hl | cons a b => rw [← k3, hq]; simp; omega
  have HR := Lib.hid r
  have HL2 := Lib.hid (ints_one G.out)
  have HC2 := Lib.hid r.co
  rw [k2] at hb
  have KC0 := Lib.hid hc0
  have HCF := Lib.hid (show nf - 1 ≤ cf - 1 by have : nf ≤ cf := r.cf; omega)
  have HGL := Lib.hid hglt
  clear h hf k1 k2 k3 r hlf htl hn1 hn2 hn3 hL1 hL2 hL3 hPg hc0 hl hglt
  unfold rvV
  go_enter Tryd.func52, Tryd.ntmps52
  go_wp2_with (first
    | ((with_reducible refine box_walk rfl 35 (.tmp 0) rfl (rvC G (.slice (some ⟨gl, ol, none⟩) nf cf) (.slice Ao no co) (.slice Al nl cl)) rfl ?_); intro w1 r1 b1 z1; have R1 := Lib.hid r1; have B1 := Lib.hid b1; have hlt1 := r1.lt; clear r1 b1 z1)
    | ((with_reducible refine alloc_walk (o := ⟨some 2, _, _, _, _, _⟩) rfl 35 rfl _ rv_zero ?_); go_must (intro w2 r2 b2 z2; have R2 := Lib.hid (R1.out.below b2); have Q2 := Lib.hid r2; have Z2 := Lib.hid z2; have B2 := Lib.hid (below_on B1.out b2); have q0 : w2.cell? ⟨gl, ol, none⟩ = some (.int .i64 d) := (B2.out.cell HGL.out).trans KC0.out; have c7 := R2.out.cell 7; have f7 := R2.out.soft 7; have c8 := R2.out.cell 8; have f8 := R2.out.soft 8; have c11 := R2.out.cell 11; have f11 := R2.out.soft 11; have c12 := R2.out.cell 12; have f12 := R2.out.soft 12; have c13 := R2.out.cell 13; have f13 := R2.out.soft 13; have c15 := R2.out.cell 15; have f15 := R2.out.soft 15; have c16 := R2.out.cell 16; have f16 := R2.out.soft 16; simp only [rvC, List.getElem?_cons_zero, List.getElem?_cons_succ] at c7 c8 c11 c12 c13 c15 c16; have R3 : Hid (Row ((w2.setCell ⟨w.heap.size, 15, none⟩ (.int .i64 d)).setCell ⟨w.heap.size, 7, none⟩ (.slice (some ⟨tb, tp, none⟩) (nf - 1) (cf - 1))) w.heap.size 35 (rvC { G with d := d, free := fs } (.slice (some ⟨tb, tp, none⟩) (nf - 1) (cf - 1)) (.slice Ao no co) (.slice Al nl cl))) := Lib.hid ((R2.out.put 15 (.int .i64 d)).put 7 (.slice (some ⟨tb, tp, none⟩) (nf - 1) (cf - 1))); have Q3 := Lib.hid ((Q2.out.far (p := ⟨w.heap.size, 15, none⟩) (Nat.ne_of_gt hlt1) (.int .i64 d)).far (p := ⟨w.heap.size, 7, none⟩) (Nat.ne_of_gt hlt1) (.slice (some ⟨tb, tp, none⟩) (nf - 1) (cf - 1))); have B3 : Hid (Below w.heap.size w ((w2.setCell ⟨w.heap.size, 15, none⟩ (.int .i64 d)).setCell ⟨w.heap.size, 7, none⟩ (.slice (some ⟨tb, tp, none⟩) (nf - 1) (cf - 1)))) := Lib.hid ((B2.out.setCell (p := ⟨w.heap.size, 15, none⟩) (Nat.le_refl _) (.int .i64 d)).setCell (p := ⟨w.heap.size, 7, none⟩) (Nat.le_refl _) (.slice (some ⟨tb, tp, none⟩) (nf - 1) (cf - 1))); clear r2 b2 z2))
    | (at_builtin; (refine app_walk _ rfl (.tmp 24) (.tmp 26) 33 rfl w2.heap.size 3 i0 _ 8 Tryd.underlying33 hi0 hz0 hz1 hz2 rfl (.slice none 0 0) 0 [] rfl (World.ownsRow_nil _ _ _ _) P Ao no co (ints G.out) rfl (HR.out.out.below B3.out) HC2.out HL2.out (by unfold maxLen; omega) (by omega) (by simp) ?_); go_must (intro v5 w5 hown5 hg5 hat5; rw [Nat.zero_add, List.nil_append] at hown5; obtain ⟨A5, u5, rfl⟩ := own_open14 hown5; have o5 : Only (fun x => (Value.slice none 0 0).ownBlock = some x) _ w5 := Only.of_own hg5; have R5 := Lib.hid (R3.out.only o5 (fun e => by cases e)); have Q5 := Lib.hid (Q3.out.only o5 (fun e => by cases e)); have B5 : Hid (Below w.heap.size w w5) := Lib.hid (Only.below B3.out o5 B3.out.size (fun x hx e => by cases e)); have O5 := Lib.hid hown5; have S5 := Lib.hid o5.size; clear c7 c8 c11 c12 c13 c15 c16 f7 f8 f11 f12 f13 f15 f16; have c7 := R5.out.cell 7; have f7 := R5.out.soft 7; have c8 := R5.out.cell 8; have f8 := R5.out.soft 8; have c11 := R5.out.cell 11; have f11 := R5.out.soft 11; have c12 := R5.out.cell 12; have f12 := R5.out.soft 12; have c13 := R5.out.cell 13; have f13 := R5.out.soft 13; have c15 := R5.out.cell 15; have f15 := R5.out.soft 15; have c16 := R5.out.cell 16; have f16 := R5.out.soft 16; simp only [rvC, List.getElem?_cons_zero, List.getElem?_cons_succ] at c7 c8 c11 c12 c13 c15 c16; clear hown5 hg5 hat5 o5))
    | (at_builtin; (refine app14_walk rfl (.tmp 28) (.tmp 31) 33 rfl w2.heap.size 3 i0 _ 1 8 Tryd.underlying33 hi0 hz0 hz1 hz2 rfl (by omega) _ _ _ rfl (O5.out.alloc _) ⟨_, 0, none⟩ 1 1 [.int .i64 d] rfl rfl (cells_new14 _ _ _ _ (by simp)) (by intro u hu; simp at hu; subst hu; rfl) (by unfold maxLen; omega) (by omega) (by have := S5.out; simp at this ⊢; omega) ?_); go_must (intro v7 w7 hown7 hg7 hat7; obtain ⟨g7, u7, rfl, hbg, hlt'⟩ := hown7.form (by omega); have s1 := B1.out.size; have s2 := Z2.out; have hbw : w.heap.size < w2.heap.size := (by omega); have o7 : Only (fun x => (Value.slice A5 no u5).ownBlock = some x) _ w7 := Only.of_own hg7; have R7 := Lib.hid ((R5.out.below (below_al _ _)).only o7 (fun e => by have := (O5.out.lt _ e).1; omega)); have Q7 := Lib.hid ((Q5.out.below (below_al _ _)).only o7 (fun e => by have := (O5.out.lt _ e).1; omega)); have B7 : Hid (Below w.heap.size w w7) := Lib.hid (Only.below (below_on B5.out (below_al _ _)) o7 (by have := B5.out.size; simp; omega) (fun x hx e => by have := (O5.out.lt x e).1; omega)); have O7 : Hid (w7.ownsRow w2.heap.size 3 1 (.slice (some ⟨g7, 0, none⟩) (no + 1) u7) (no + 1) (ints (G.out ++ [d]))) := Lib.hid (by rw [ints_append]; exact hown7); clear c7 c8 c11 c12 c13 c15 c16 f7 f8 f11 f12 f13 f15 f16; have c7 := R7.out.cell 7; have f7 := R7.out.soft 7; have c8 := R7.out.cell 8; have f8 := R7.out.soft 8; have c11 := R7.out.cell 11; have f11 := R7.out.soft 11; have c12 := R7.out.cell 12; have f12 := R7.out.soft 12; have c13 := R7.out.cell 13; have f13 := R7.out.soft 13; have c15 := R7.out.cell 15; have f15 := R7.out.soft 15; have c16 := R7.out.cell 16; have f16 := R7.out.soft 16; simp only [rvC, List.getElem?_cons_zero, List.getElem?_cons_succ] at c7 c8 c11 c12 c13 c15 c16; have R8 : Hid (Row (((w7.setCell ⟨w.heap.size, 8, none⟩ (.slice (some ⟨g7, 0, none⟩) (no + 1) u7)).setCell ⟨w.heap.size, 11, none⟩ (.int .i64 8)).setCell ⟨w.heap.size, 12, none⟩ (.int .i64 0)) w.heap.size 35 (rvC { G with d := d, free := fs, out := G.out ++ [d], i := 0, at_ := 8 } (.slice (some ⟨tb, tp, none⟩) (nf - 1) (cf - 1)) (.slice (some ⟨g7, 0, none⟩) (no + 1) u7) (.slice Al nl cl))) := Lib.hid (((R7.out.put 8 (.slice (some ⟨g7, 0, none⟩) (no + 1) u7)).put 11 (.int .i64 8)).put 12 (.int .i64 0)); have Q8 := Lib.hid (((Q7.out.far (p := ⟨w.heap.size, 8, none⟩) (Nat.ne_of_gt hlt1) (.slice (some ⟨g7, 0, none⟩) (no + 1) u7)).far (p := ⟨w.heap.size, 11, none⟩) (Nat.ne_of_gt hlt1) (.int .i64 8)).far (p := ⟨w.heap.size, 12, none⟩) (Nat.ne_of_gt hlt1) (.int .i64 0)); clear hown7 hg7 hat7 o7 s1 s2 hbw hbg hlt'))
    | (with_reducible refine loadRow_walk rfl 35 (.tmp 1) rfl w.heap.size rfl (rvC { G with d := d, free := fs, out := G.out ++ [d], i := 0, at_ := 8 } (.slice (some ⟨tb, tp, none⟩) (nf - 1) (cf - 1)) (.slice (some ⟨g7, 0, none⟩) (no + 1) u7) (.slice Al nl cl)) rv_struct (HSZ.out _ _ _ _) 35 R8.out ?_)
    | ((with_reducible refine storeRow_walk rfl 35 (.tmp 2) (.tmp 41) rfl w1.heap.size rfl (rvC { G with d := d, free := fs, out := G.out ++ [d], i := 0, at_ := 8 } (.slice (some ⟨tb, tp, none⟩) (nf - 1) (cf - 1)) (.slice (some ⟨g7, 0, none⟩) (no + 1) u7) (.slice Al nl cl)) rfl (HSZ.out _ _ _ _) 35 rvZ Q8.out rfl (rv_one _) ?_); intro w4 r4 o4 z4; have R4 := Lib.hid r4; have N4 := Lib.hid o4; clear r4 o4 z4))
  have NN : Only (fun x => x = w.heap.size ∨ x = w1.heap.size) w7 w4 := ((((Only.refl (fun x => x = w.heap.size ∨ x = w1.heap.size) w7).setCell (p := ⟨w.heap.size, 8, none⟩) (.inl (.inl rfl)) _).setCell (p := ⟨w.heap.size, 11, none⟩) (.inl (.inl rfl)) _).setCell (p := ⟨w.heap.size, 12, none⟩) (.inl (.inl rfl)) _).trans (N4.out.mono (fun x _ e => .inr e))
  have s1 := B1.out.size
  have s2 := Z2.out
  have hlt2 : w1.heap.size < w2.heap.size := by omega
  have B4 : Below w.heap.size w w4 := Only.below B7.out NN B7.out.size (fun x hx e => by omega)
  have O4 := own_quiet O7.out (fun x hx => NN.block x (O7.out.lt x hx).2 (fun e => by have := (O7.out.lt x hx).1; omega))
  exact bodyPost_ret (rv_results Tryd.results52 rfl R4.out) rfl ⟨_, _, _, _, _, _, _, _, _, rfl, ⟨(T1.out.below B4).weak (fun x _ h => .inl h), (Lies.of_own O4).weak (fun x _ h => .inr (by omega)), (HR.out.load.below B4).weak (fun x _ h => .inl h), HCF.out, CapOk.of_own O4, HR.out.cl⟩, B4⟩
end
end

end Go.Proofs.YteipocjgmgaglaaDoor
