/-
  Layer 16 (giver): follow.
  Conditions: those that each theorem states.
-/
import Derived.Test.YtgdbaaoifnedbaaDoorGv5
import Derived.Test.YtgdbaaoifnedbaaDoorFwd
namespace Go.Proofs.YtgdbaaoifnedbaaDoor
open Go.ChangeShapes Go.WideShapes Go.ChangeAt Go.RowKit

/-- What follows from an access, in numbers: the words are written next; the call is over with a result; behind the last returned slot. -/
def wri16 (G : Gv) : Gv := { G with st := if G.sto = G.load.length then 9 else 8 }
def fin16 (G : Gv) (n : Int) : Gv := { G with st := 15, res := n }
def roo16 (G : Gv) : Gv := if 0 < G.ret then { G with st := 7 } else if takB16 G then wri16 (takG16 G) else fin16 G 5

/-- What follows from an access that has read x: the giver then, and the result if the call has ended. -/
def aft16 (G : Gv) (x : Int) : Gv × Option Int :=
  if G.st = 1 then ({ askG16 G x with st := askS16 G x }, none)
  else if G.st = 4 then (idle16 { G with linked := false, free := upto16 G.R, out := [], next := 0, tail := 0 }, some 8)
  else if G.st = 5 then (if x = ep16 G then ({ G with linked := true, st := 6 }, none) else (idle16 G, some 9))
  else if G.st = 6 then (if (G.out.length : Int) < subW x G.tail then (fin16 { G with ret := subW x G.tail } 10, none) else (roo16 { G with ret := subW x G.tail }, none))
  else if G.st = 7 then (if x ∈ G.out then (roo16 { regG16 G x with ret := G.ret - 1 }, none) else (fin16 G 10, none))
  else if G.st = 8 then (wri16 { G with sto := G.sto + 1 }, none)
  else if G.st = 15 then (idle16 (judG16 G x), some (judE16 G x))
  else ({ G with st := G.st + 1 }, none)
def ansV16 (o : Option Int) : Value := .tuple #[.bool o.isSome, .int .i64 (o.getD 0)]

/-- The body of follow, and the code behind its labels. -/
noncomputable def folB : Option Code := (Tryd.prog.funcs[68]?).bind (fun f => f.body)
noncomputable def folC : Code := match folB with | some (Code.seq _ (Code.scope c)) => c | _ => Code.skip
noncomputable def folJ (l : Nat) : Option Code := findLabel folC l
noncomputable def folR (l : Nat) : Code := (findLabel folC l).getD .skip
theorem folJ0 : folJ 0 = some (folR 0) := by kernel_rfl
theorem folJ1 : folJ 1 = some (folR 1) := by kernel_rfl
theorem folJ2 : folJ 2 = some (folR 2) := by kernel_rfl

section
variable {g : Nat} {G : Gv} {vf vo vl : Value}

/-- Behind a call: its own part, and more cells of the struct. -/
theorem GP16.more {w w1 w2 : World} {G1 G2 : Gv} {vf1 vo1 vl1 ans : Value} (h1 : Only (own16 g vf vo vl) w w1) (n1 : ∀ x, own16 g vf1 vo1 vl1 x → own16 g vf vo vl x ∨ w.heap.size ≤ x) (r : GAt w1 g G1 vf1 vo1 vl1) (ho : Only (· = g) w1 w2) (hr : Row w2 g 99 (gvC G2 vf1 vo1 vl1)) (hf : G2.free = G1.free) (hout : G2.out = G1.out) (hl : G2.load = G1.load) : GP16 g G2 vf vo vl ans w (.returned ans) w2 :=
  GP16.trans h1 n1 (GP16.one r ho hr hf hout hl)

/-- What has changed behind two calls. -/
theorem ch16 {w w1 w2 : World} {vf1 vo1 vl1 vf2 vo2 vl2 : Value} (h1 : Only (own16 g vf vo vl) w w1) (n1 : ∀ x, own16 g vf1 vo1 vl1 x → own16 g vf vo vl x ∨ w.heap.size ≤ x) (o2 : Only (own16 g vf1 vo1 vl1) w1 w2) (n2 : ∀ x, own16 g vf2 vo2 vl2 x → own16 g vf1 vo1 vl1 x ∨ w1.heap.size ≤ x) :
    Only (own16 g vf vo vl) w w2 ∧ ∀ x, own16 g vf2 vo2 vl2 x → own16 g vf vo vl x ∨ w.heap.size ≤ x := by
  have hs := h1.size
  refine ⟨h1.then14 o2 (fun x hx h => (n1 x h).resolve_right (by omega)), fun x h => ?_⟩
  rcases n2 x h with h | h
  · exact n1 x h
  · exact .inr (by omega)

set_option maxRecDepth 100000 in
set_option maxHeartbeats 2000000 in
theorem fol16_s2 (x : Int) (w : World) (r : GAt w g G vf vo vl) (hst : G.st = 2) :
    Calls Tryd.prog 68 #[.pointer (some ⟨g, 0, none⟩), .int .i64 x] w (GP16 g (aft16 G x).1 vf vo vl (ansV16 (aft16 G x).2) w) := by
  have R := Lib.hid r
  have HE : Hid (aft16 G x = ({ G with st := 3 }, none)) := Lib.hid (by unfold aft16; simp [hst])
  have HR : Hid (Row (w.setCell ⟨g, 6, none⟩ (.int .i64 3)) g 99 (gvC { G with st := 3 } vf vo vl)) := Lib.hid (r.row.put 6 (.int .i64 3))
  have c6 := r.row.cell 6
  have f6 := r.row.soft 6
  simp only [gvC, List.getElem?_cons_zero, List.getElem?_cons_succ] at c6
  rw [hst] at c6
  clear r hst
  go_enter Tryd.func68, Tryd.ntmps68
  go_wp2
  refine wp_scope_fwd 3 folJ (fun l => by kernel_rfl) ?_
  go_wp2
  go_ret2
  rw [HE.out]
  exact GP16.one R.out (only_put16 _ _ _ _) HR.out rfl rfl rfl

set_option maxRecDepth 100000 in
set_option maxHeartbeats 2000000 in
theorem fol16_s3 (x : Int) (w : World) (r : GAt w g G vf vo vl) (hst : G.st = 3) :
    Calls Tryd.prog 68 #[.pointer (some ⟨g, 0, none⟩), .int .i64 x] w (GP16 g (aft16 G x).1 vf vo vl (ansV16 (aft16 G x).2) w) := by
  have R := Lib.hid r
  have HE : Hid (aft16 G x = ({ G with st := 4 }, none)) := Lib.hid (by unfold aft16; simp [hst])
  have HR : Hid (Row (w.setCell ⟨g, 6, none⟩ (.int .i64 4)) g 99 (gvC { G with st := 4 } vf vo vl)) := Lib.hid (r.row.put 6 (.int .i64 4))
  have c6 := r.row.cell 6
  have f6 := r.row.soft 6
  simp only [gvC, List.getElem?_cons_zero, List.getElem?_cons_succ] at c6
  rw [hst] at c6
  clear r hst
  go_enter Tryd.func68, Tryd.ntmps68
  go_wp2
  refine wp_scope_fwd 3 folJ (fun l => by kernel_rfl) ?_
  go_wp2
  go_ret2
  rw [HE.out]
  exact GP16.one R.out (only_put16 _ _ _ _) HR.out rfl rfl rfl

set_option maxRecDepth 100000 in
set_option maxHeartbeats 2000000 in
theorem fol16_s9 (x : Int) (w : World) (r : GAt w g G vf vo vl) (hst : G.st = 9) :
    Calls Tryd.prog 68 #[.pointer (some ⟨g, 0, none⟩), .int .i64 x] w (GP16 g (aft16 G x).1 vf vo vl (ansV16 (aft16 G x).2) w) := by
  have R := Lib.hid r
  have HE : Hid (aft16 G x = ({ G with st := 10 }, none)) := Lib.hid (by unfold aft16; simp [hst])
  have HR : Hid (Row (w.setCell ⟨g, 6, none⟩ (.int .i64 10)) g 99 (gvC { G with st := 10 } vf vo vl)) := Lib.hid (r.row.put 6 (.int .i64 10))
  have c6 := r.row.cell 6
  have f6 := r.row.soft 6
  simp only [gvC, List.getElem?_cons_zero, List.getElem?_cons_succ] at c6
  rw [hst] at c6
  clear r hst
  go_enter Tryd.func68, Tryd.ntmps68
  go_wp2
  refine wp_scope_fwd 3 folJ (fun l => by kernel_rfl) ?_
  go_wp2
  go_ret2
  rw [HE.out]
  exact GP16.one R.out (only_put16 _ _ _ _) HR.out rfl rfl rfl

set_option maxRecDepth 100000 in
set_option maxHeartbeats 2000000 in
theorem fol16_s10 (x : Int) (w : World) (r : GAt w g G vf vo vl) (hst : G.st = 10) :
    Calls Tryd.prog 68 #[.pointer (some ⟨g, 0, none⟩), .int .i64 x] w (GP16 g (aft16 G x).1 vf vo vl (ansV16 (aft16 G x).2) w) := by
  have R := Lib.hid r
  have HE : Hid (aft16 G x = ({ G with st := 11 }, none)) := Lib.hid (by unfold aft16; simp [hst])
  have HR : Hid (Row (w.setCell ⟨g, 6, none⟩ (.int .i64 11)) g 99 (gvC { G with st := 11 } vf vo vl)) := Lib.hid (r.row.put 6 (.int .i64 11))
  have c6 := r.row.cell 6
  have f6 := r.row.soft 6
  simp only [gvC, List.getElem?_cons_zero, List.getElem?_cons_succ] at c6
  rw [hst] at c6
  clear r hst
  go_enter Tryd.func68, Tryd.ntmps68
  go_wp2
  refine wp_scope_fwd 3 folJ (fun l => by kernel_rfl) ?_
  go_wp2
  go_ret2
  rw [HE.out]
  exact GP16.one R.out (only_put16 _ _ _ _) HR.out rfl rfl rfl

set_option maxRecDepth 100000 in
set_option maxHeartbeats 2000000 in
theorem fol16_s11 (x : Int) (w : World) (r : GAt w g G vf vo vl) (hst : G.st = 11) :
    Calls Tryd.prog 68 #[.pointer (some ⟨g, 0, none⟩), .int .i64 x] w (GP16 g (aft16 G x).1 vf vo vl (ansV16 (aft16 G x).2) w) := by
  have R := Lib.hid r
  have HE : Hid (aft16 G x = ({ G with st := 12 }, none)) := Lib.hid (by unfold aft16; simp [hst])
  have HR : Hid (Row (w.setCell ⟨g, 6, none⟩ (.int .i64 12)) g 99 (gvC { G with st := 12 } vf vo vl)) := Lib.hid (r.row.put 6 (.int .i64 12))
  have c6 := r.row.cell 6
  have f6 := r.row.soft 6
  simp only [gvC, List.getElem?_cons_zero, List.getElem?_cons_succ] at c6
  rw [hst] at c6
  clear r hst
  go_enter Tryd.func68, Tryd.ntmps68
  go_wp2
  refine wp_scope_fwd 3 folJ (fun l => by kernel_rfl) ?_
  go_wp2
  go_ret2
  rw [HE.out]
  exact GP16.one R.out (only_put16 _ _ _ _) HR.out rfl rfl rfl

set_option maxRecDepth 100000 in
set_option maxHeartbeats 2000000 in
theorem fol16_s12 (x : Int) (w : World) (r : GAt w g G vf vo vl) (hst : G.st = 12) :
    Calls Tryd.prog 68 #[.pointer (some ⟨g, 0, none⟩), .int .i64 x] w (GP16 g (aft16 G x).1 vf vo vl (ansV16 (aft16 G x).2) w) := by
  have R := Lib.hid r
  have HE : Hid (aft16 G x = ({ G with st := 13 }, none)) := Lib.hid (by unfold aft16; simp [hst])
  have HR : Hid (Row (w.setCell ⟨g, 6, none⟩ (.int .i64 13)) g 99 (gvC { G with st := 13 } vf vo vl)) := Lib.hid (r.row.put 6 (.int .i64 13))
  have c6 := r.row.cell 6
  have f6 := r.row.soft 6
  simp only [gvC, List.getElem?_cons_zero, List.getElem?_cons_succ] at c6
  rw [hst] at c6
  clear r hst
  go_enter Tryd.func68, Tryd.ntmps68
  go_wp2
  refine wp_scope_fwd 3 folJ (fun l => by kernel_rfl) ?_
  go_wp2
  go_ret2
  rw [HE.out]
  exact GP16.one R.out (only_put16 _ _ _ _) HR.out rfl rfl rfl

set_option maxRecDepth 100000 in
set_option maxHeartbeats 2000000 in
theorem fol16_s13 (x : Int) (w : World) (r : GAt w g G vf vo vl) (hst : G.st = 13) :
    Calls Tryd.prog 68 #[.pointer (some ⟨g, 0, none⟩), .int .i64 x] w (GP16 g (aft16 G x).1 vf vo vl (ansV16 (aft16 G x).2) w) := by
  have R := Lib.hid r
  have HE : Hid (aft16 G x = ({ G with st := 14 }, none)) := Lib.hid (by unfold aft16; simp [hst])
  have HR : Hid (Row (w.setCell ⟨g, 6, none⟩ (.int .i64 14)) g 99 (gvC { G with st := 14 } vf vo vl)) := Lib.hid (r.row.put 6 (.int .i64 14))
  have c6 := r.row.cell 6
  have f6 := r.row.soft 6
  simp only [gvC, List.getElem?_cons_zero, List.getElem?_cons_succ] at c6
  rw [hst] at c6
  clear r hst
  go_enter Tryd.func68, Tryd.ntmps68
  go_wp2
  refine wp_scope_fwd 3 folJ (fun l => by kernel_rfl) ?_
  go_wp2
  go_ret2
  rw [HE.out]
  exact GP16.one R.out (only_put16 _ _ _ _) HR.out rfl rfl rfl

set_option maxRecDepth 100000 in
set_option maxHeartbeats 2000000 in
theorem fol16_s14 (x : Int) (w : World) (r : GAt w g G vf vo vl) (hst : G.st = 14) :
    Calls Tryd.prog 68 #[.pointer (some ⟨g, 0, none⟩), .int .i64 x] w (GP16 g (aft16 G x).1 vf vo vl (ansV16 (aft16 G x).2) w) := by
  have R := Lib.hid r
  have HE : Hid (aft16 G x = ({ G with st := 15 }, none)) := Lib.hid (by unfold aft16; simp [hst])
  have HR : Hid (Row (w.setCell ⟨g, 6, none⟩ (.int .i64 15)) g 99 (gvC { G with st := 15 } vf vo vl)) := Lib.hid (r.row.put 6 (.int .i64 15))
  have c6 := r.row.cell 6
  have f6 := r.row.soft 6
  simp only [gvC, List.getElem?_cons_zero, List.getElem?_cons_succ] at c6
  rw [hst] at c6
  clear r hst
  go_enter Tryd.func68, Tryd.ntmps68
  go_wp2
  refine wp_scope_fwd 3 folJ (fun l => by kernel_rfl) ?_
  go_wp2
  go_ret2
  rw [HE.out]
  exact GP16.one R.out (only_put16 _ _ _ _) HR.out rfl rfl rfl

set_option maxRecDepth 100000 in
set_option maxHeartbeats 2000000 in
theorem fol16_s8 (x : Int) (w : World) (r : GAt w g G vf vo vl) (hst : G.st = 8) (hs : G.sto ≤ 100) :
    Calls Tryd.prog 68 #[.pointer (some ⟨g, 0, none⟩), .int .i64 x] w (GP16 g (aft16 G x).1 vf vo vl (ansV16 (aft16 G x).2) w) := by
  have R := Lib.hid r
  obtain ⟨w2, hw2⟩ : ∃ w2, w2 = w.setCell ⟨g, 14, none⟩ (.int .i64 ((G.sto : Int) + 1)) := ⟨_, rfl⟩
  have o2 : Only (· = g) w w2 := by rw [hw2]; exact only_put16 _ _ _ _
  obtain ⟨G1, hG⟩ : ∃ G1 : Gv, G1 = { G with sto := G.sto + 1 } := ⟨_, rfl⟩
  have r2 : GAt w2 g G1 vf vo vl := by rw [hG]; exact r.turn o2 (by rw [hw2]; exact r.row.put 14 (.int .i64 ((G.sto : Int) + 1))) rfl rfl rfl
  have R2 := Lib.hid r2
  have O2 := Lib.hid (o2.mono (T := own16 g vf vo vl) (fun _ _ h => .inl h))
  have HE : Hid (aft16 G x = (wri16 G1, none)) := Lib.hid (by unfold aft16; simp [hst, hG])
  have c6 := r.row.cell 6
  have c14 := r.row.cell 14
  have f6 := r.row.soft 6
  have f14 := r.row.soft 14
  simp only [gvC, List.getElem?_cons_zero, List.getElem?_cons_succ] at c6 c14
  rw [hst] at c6
  have hso : G.sto ≤ 100 := hs
  obtain ⟨k0, hk0⟩ : ∃ n, G.sto = n := ⟨_, rfl⟩
  rw [hk0] at c14 hw2 hso
  clear r o2 r2 hst hG
  go_enter Tryd.func68, Tryd.ntmps68
  go_wp2
  refine wp_scope_fwd 3 folJ (fun l => by kernel_rfl) ?_
  go_wp2
  go_step3
  try simp only [Exit.inBlock]
  try simp only [Exit.then]
  refine fwd_goto folJ2 ?_
  conv => arg 2; whnf
  rw [← hw2]
  clear hw2
  obtain ⟨Al, cl, hvl⟩ := own_open14 R2.out.load
  obtain ⟨nl, hnl⟩ : ∃ n, (G1).load.length = n := ⟨_, rfl⟩
  obtain ⟨kl, hkl⟩ : ∃ n, (G1).sto = n := ⟨_, rfl⟩
  rw [hnl] at hvl
  have yc6 := R2.out.row.cell 6
  have yc13 := R2.out.row.cell 13
  have yc14 := R2.out.row.cell 14
  have yf6 := R2.out.row.soft 6
  simp only [gvC, List.getElem?_cons_zero, List.getElem?_cons_succ] at yc6 yc13 yc14
  rw [hvl] at yc13
  rw [hkl] at yc14
  have HKL : Hid ((G1).load.length = nl ∧ (G1).sto = kl) := Lib.hid ⟨hnl, hkl⟩
  clear hvl hnl hkl
  by_cases hkn : kl = nl
  · have e9 : ((kl : Int) == (nl : Int)) = true := by simp [hkn]
    have HW : Hid (wri16 (G1) = { G1 with st := 9 }) := Lib.hid (by unfold wri16; rw [if_pos (by rw [HKL.out.1, HKL.out.2]; exact hkn)])
    clear hkn
    go_wp2
    go_quiet (fail)
    go_wp2
    go_ret2
    rw [HE.out, HW.out]
    refine GP16.more O2.out (fun _ h => .inl h) R2.out (by repeat (with_reducible (first | exact Only.refl _ _ | refine Only.put16 ?_ _ _ | refine Only.drewN ?_ _))) ?_ rfl rfl rfl
    exact ((R2.out.row.put 6 (.int .i64 8)).drewN _).put 6 (.int .i64 9)
  · have e9 : ((kl : Int) == (nl : Int)) = false := by simp; omega
    have HW : Hid (wri16 (G1) = { G1 with st := 8 }) := Lib.hid (by unfold wri16; rw [if_neg (by rw [HKL.out.1, HKL.out.2]; exact hkn)])
    clear hkn
    go_wp2
    go_quiet (fail)
    go_wp2
    go_ret2
    rw [HE.out, HW.out]
    refine GP16.more O2.out (fun _ h => .inl h) R2.out (by repeat (with_reducible (first | exact Only.refl _ _ | refine Only.put16 ?_ _ _ | refine Only.drewN ?_ _))) ?_ rfl rfl rfl
    exact (R2.out.row.put 6 (.int .i64 8)).drewN _

set_option maxRecDepth 100000 in
set_option maxHeartbeats 2000000 in
theorem fol16_s1 (x : Int) (w : World) (r : GAt w g G vf vo vl) (hst : G.st = 1) :
    Calls Tryd.prog 68 #[.pointer (some ⟨g, 0, none⟩), .int .i64 x] w (GP16 g (aft16 G x).1 vf vo vl (ansV16 (aft16 G x).2) w) := by
  have R := Lib.hid r
  have KA := Lib.hid (asked16_any x w r)
  have HE : Hid (aft16 G x = ({ askG16 G x with st := askS16 G x }, none)) := Lib.hid (by unfold aft16; simp [hst])
  have c6 := r.row.cell 6
  simp only [gvC, List.getElem?_cons_zero, List.getElem?_cons_succ] at c6
  rw [hst] at c6
  clear r hst
  go_enter Tryd.func68, Tryd.ntmps68
  go_wp2
  refine wp_scope_fwd 3 folJ (fun l => by kernel_rfl) ?_
  go_wp2_with fail
  refine KA.out.mono ?_
  rintro e w1 ⟨vf1, vo1, vl1, rfl, r1, o1, n1⟩
  have zc6 := r1.row.cell 6
  have zf6 := r1.row.soft 6
  simp only [gvC, List.getElem?_cons_zero, List.getElem?_cons_succ] at zc6
  have R1 := Lib.hid r1
  have O1 := Lib.hid o1
  have N1 := Lib.hid n1
  clear r1 o1 n1
  go_wp2
  go_ret2
  rw [HE.out]
  exact GP16.more O1.out N1.out R1.out (only_put16 _ _ _ _) (R1.out.row.put 6 _) rfl rfl rfl

set_option maxRecDepth 100000 in
set_option maxHeartbeats 2000000 in
theorem fol16_s5 (x : Int) (w : World) (r : GAt w g G vf vo vl) (hst : G.st = 5) :
    Calls Tryd.prog 68 #[.pointer (some ⟨g, 0, none⟩), .int .i64 x] w (GP16 g (aft16 G x).1 vf vo vl (ansV16 (aft16 G x).2) w) := by
  have R := Lib.hid r
  have KA := Lib.hid (epoch16_any w r)
  have c6 := r.row.cell 6
  have f6 := r.row.soft 6
  simp only [gvC, List.getElem?_cons_zero, List.getElem?_cons_succ] at c6
  rw [hst] at c6
  obtain ⟨q, hq⟩ : ∃ q, ep16 G = q := ⟨_, rfl⟩
  rw [hq] at KA
  by_cases hx : x = q
  · have HE : Hid (aft16 G x = ({ G with linked := true, st := 6 }, none)) := Lib.hid (by unfold aft16; simp [hst, hq, hx])
    have e0 : (x != q) = false := by simp [hx]
    clear r hst hx hq
    go_enter Tryd.func68, Tryd.ntmps68
    go_wp2
    refine wp_scope_fwd 3 folJ (fun l => by kernel_rfl) ?_
    go_wp2_with fail
    refine KA.out.mono ?_
    rintro e w1 ⟨rfl, b1⟩
    have R1 := Lib.hid (R.out.below b1)
    have zc6 := R1.out.row.cell 6
    have zc8 := R1.out.row.cell 8
    have zf6 := R1.out.row.soft 6
    have zf8 := R1.out.row.soft 8
    simp only [gvC, List.getElem?_cons_zero, List.getElem?_cons_succ] at zc6 zc8
    have O1 := Lib.hid (Only.of_below b1 (own16 g vf vo vl))
    clear b1
    go_wp2
    go_ret2
    rw [HE.out]
    exact GP16.more O1.out (fun _ h => .inl h) R1.out ((only_put16 _ _ _ _).put16 _ _) ((R1.out.row.put 8 (.bool true)).put 6 (.int .i64 6)) rfl rfl rfl
  · have HE : Hid (aft16 G x = (idle16 G, some 9)) := Lib.hid (by unfold aft16; simp [hst, hq, hx])
    have e0 : (x != q) = true := by simpa using hx
    clear r hst hx hq
    go_enter Tryd.func68, Tryd.ntmps68
    go_wp2
    refine wp_scope_fwd 3 folJ (fun l => by kernel_rfl) ?_
    go_wp2_with fail
    refine KA.out.mono ?_
    rintro e w1 ⟨rfl, b1⟩
    have R1 := Lib.hid (R.out.below b1)
    have KE := Lib.hid (end16_any 9 w1 R1.out)
    have O1 := Lib.hid (Only.of_below b1 (own16 g vf vo vl))
    clear b1
    go_wp2_with fail
    refine KE.out.mono ?_
    rintro e w2 ⟨vf2, vo2, vl2, rfl, r2, o2, n2⟩
    have R2 := Lib.hid r2
    have O2 := Lib.hid o2
    have N2 := Lib.hid n2
    clear r2 o2 n2
    go_wp2
    go_ret2
    rw [HE.out]
    exact GP16.trans O1.out (fun _ h => .inl h) ⟨_, _, _, rfl, R2.out, O2.out, N2.out⟩

set_option maxRecDepth 100000 in
set_option maxHeartbeats 2000000 in
theorem fol16_s15 (x : Int) (w : World) (r : GAt w g G vf vo vl) (hst : G.st = 15) :
    Calls Tryd.prog 68 #[.pointer (some ⟨g, 0, none⟩), .int .i64 x] w (GP16 g (aft16 G x).1 vf vo vl (ansV16 (aft16 G x).2) w) := by
  have R := Lib.hid r
  have KA := Lib.hid (judge16_any x w r)
  have HE : Hid (aft16 G x = (idle16 (judG16 G x), some (judE16 G x))) := Lib.hid (by unfold aft16; simp [hst])
  have c6 := r.row.cell 6
  simp only [gvC, List.getElem?_cons_zero, List.getElem?_cons_succ] at c6
  rw [hst] at c6
  clear r hst
  go_enter Tryd.func68, Tryd.ntmps68
  go_wp2
  refine wp_scope_fwd 3 folJ (fun l => by kernel_rfl) ?_
  go_wp2_with fail
  refine KA.out.mono ?_
  rintro e w1 ⟨vf1, vo1, vl1, rfl, r1, o1, n1⟩
  have KE := Lib.hid (end16_any (judE16 G x) w1 r1)
  have O1 := Lib.hid o1
  have N1 := Lib.hid n1
  clear r1 o1 n1
  go_wp2_with fail
  refine KE.out.mono ?_
  rintro e w2 ⟨vf2, vo2, vl2, rfl, r2, o2, n2⟩
  have R2 := Lib.hid r2
  have O2 := Lib.hid o2
  have N2 := Lib.hid n2
  clear r2 o2 n2
  go_wp2
  go_ret2
  rw [HE.out]
  exact GP16.trans O1.out N1.out ⟨_, _, _, rfl, R2.out, O2.out, N2.out⟩

set_option maxRecDepth 100000 in
set_option maxHeartbeats 2000000 in
theorem fol16_s6 (x : Int) (w : World) (r : GAt w g G vf vo vl) (hst : G.st = 6) (hl : G.out.length ≤ 100) (hf : G.free.length ≤ 100) :
    Calls Tryd.prog 68 #[.pointer (some ⟨g, 0, none⟩), .int .i64 x] w (GP16 g (aft16 G x).1 vf vo vl (ansV16 (aft16 G x).2) w) := by
  have R := Lib.hid r
  have AD := Lib.hid (fun W => sub_any x G.tail W)
  obtain ⟨q1, hq⟩ : ∃ q, subW x G.tail = q := ⟨_, rfl⟩
  rw [hq] at AD
  obtain ⟨w2, hw2⟩ : ∃ w2, w2 = w.setCell ⟨g, 15, none⟩ (.int .i64 q1) := ⟨_, rfl⟩
  have o2 : Only (· = g) w w2 := by rw [hw2]; exact only_put16 _ _ _ _
  obtain ⟨G1, hG⟩ : ∃ G1 : Gv, G1 = { G with ret := q1 } := ⟨_, rfl⟩
  have r2 : GAt w2 g G1 vf vo vl := by rw [hG]; exact r.turn o2 (by rw [hw2]; exact r.row.put 15 (.int .i64 q1)) rfl rfl rfl
  have HQ : Hid (G1.ret = q1) := Lib.hid (by rw [hG])
  have HL1 : Hid (G1.out.length ≤ 100 ∧ G1.free.length ≤ 100) := Lib.hid (by rw [hG]; exact ⟨hl, hf⟩)
  have R2 := Lib.hid r2
  have O2 := Lib.hid (o2.mono (T := own16 g vf vo vl) (fun _ _ h => .inl h))
  have c6 := r.row.cell 6
  have c12 := r.row.cell 12
  have c15 := r.row.cell 15
  have f6 := r.row.soft 6
  have f15 := r.row.soft 15
  simp only [gvC, List.getElem?_cons_zero, List.getElem?_cons_succ] at c6 c12 c15
  rw [hst] at c6
  obtain ⟨A, c, hvo⟩ := own_open14 r.out
  obtain ⟨n, hn⟩ : ∃ n, G.out.length = n := ⟨_, rfl⟩
  rw [hn] at hvo
  have uc6 := r2.row.cell 6
  have uc10 := r2.row.cell 10
  have uc15 := r2.row.cell 15
  have uc16 := r2.row.cell 16
  have uf6 := r2.row.soft 6
  have uf16 := r2.row.soft 16
  simp only [gvC, List.getElem?_cons_zero, List.getElem?_cons_succ] at uc6 uc10 uc15 uc16
  rw [hvo] at uc10
  rw [HQ.out] at uc15
  have HN := Lib.hid hn
  clear r o2
  by_cases hlt : (n : Int) < q1
  · have HE : Hid (aft16 G x = (fin16 G1 10, none)) := Lib.hid (by unfold aft16; simp [hst, hq, HN.out, hlt, hG])
    clear r2 hst hq hvo hG
    go_enter Tryd.func68, Tryd.ntmps68
    go_wp2
    refine wp_scope_fwd 3 folJ (fun l => by kernel_rfl) ?_
    go_wp2_with (go_at_call 95; refine (AD.out _).mono ?_; rintro e w' ⟨rfl, rfl⟩)
    rw [← hw2]
    clear hw2
    go_quiet (fail)
    go_wp2
    go_step3
    try simp only [Exit.inBlock]
    try simp only [Exit.then]
    refine fwd_goto folJ0 ?_
    conv => arg 2; whnf
    go_wp2
    go_ret2
    rw [HE.out]
    refine GP16.more O2.out (fun _ h => .inl h) R2.out (by repeat (with_reducible (first | exact Only.refl _ _ | refine Only.put16 ?_ _ _ | refine Only.drewN ?_ _))) ?_ rfl rfl rfl
    exact ((R2.out.row.drewN _).put 16 (.int .i64 10)).put 6 (.int .i64 15)
  · have HE : Hid (aft16 G x = (roo16 G1, none)) := Lib.hid (by unfold aft16; simp [hst, hq, HN.out, hlt, hG])
    have KT := Lib.hid (fun m => take16_any (w2.drewN m) (r2.below (below_q w2 m)) HL1.out.1 HL1.out.2)
    clear r2 hst hq hvo hG
    go_enter Tryd.func68, Tryd.ntmps68
    go_wp2
    refine wp_scope_fwd 3 folJ (fun l => by kernel_rfl) ?_
    go_wp2_with (go_at_call 95; refine (AD.out _).mono ?_; rintro e w' ⟨rfl, rfl⟩)
    rw [← hw2]
    clear hw2
    go_quiet (fail)
    go_wp2
    by_cases h0 : 0 < G1.ret
    · have e0 : ((0 : Int) < q1) := by rw [← HQ.out]; exact h0
      have HR : Hid (roo16 G1 = { G1 with st := 7 }) := Lib.hid (by unfold roo16; rw [if_pos h0])
      clear h0
      go_step3
      try simp only [Exit.inBlock]
      try simp only [Exit.then]
      refine fwd_goto folJ1 ?_
      conv => arg 2; whnf
      go_wp2
      go_ret2
      rw [HE.out, HR.out]
      refine GP16.more O2.out (fun _ h => .inl h) R2.out (by repeat (with_reducible (first | exact Only.refl _ _ | refine Only.put16 ?_ _ _ | refine Only.drewN ?_ _))) ?_ rfl rfl rfl
      exact Row.put (R2.out.row.drewN _) 6 (.int .i64 7)
    · have e0 : ¬ ((0 : Int) < q1) := by rw [← HQ.out]; exact h0
      cases hb : takB16 G1 with
      | false =>
        have HR : Hid (roo16 G1 = fin16 G1 5) := Lib.hid (by unfold roo16; rw [if_neg h0, hb]; rfl)
        have HT : Hid (takG16 G1 = G1) := Lib.hid (by
          unfold takB16 at hb
          unfold takG16
          split
          · rfl
          · rename_i d fs he
            rw [he] at hb
            cases hb)
        rw [hb, HT.out] at KT
        clear h0 hb
        go_step3
        try simp only [Exit.inBlock]
        try simp only [Exit.then]
        refine fwd_goto folJ1 ?_
        conv => arg 2; whnf
        go_wp2_with fail
        refine (KT.out _).mono ?_
        rintro e w6 ⟨vf6, vo6, vl6, rfl, r6, o6, n6⟩
        have zc6 := r6.row.cell 6
        have zc16 := r6.row.cell 16
        have zf6 := r6.row.soft 6
        have zf16 := r6.row.soft 16
        simp only [gvC, List.getElem?_cons_zero, List.getElem?_cons_succ] at zc6 zc16
        have R6 := Lib.hid r6
        have C6 := Lib.hid (ch16 (O2.out.drewN _) (fun _ h => .inl h) o6 n6)
        clear r6 o6 n6
        go_wp2
        go_step3
        try simp only [Exit.inBlock]
        try simp only [Exit.then]
        refine fwd_goto folJ0 ?_
        conv => arg 2; whnf
        go_wp2
        go_ret2
        rw [HE.out, HR.out]
        refine GP16.more C6.out.1 C6.out.2 R6.out (by repeat (with_reducible (first | exact Only.refl _ _ | refine Only.put16 ?_ _ _ | refine Only.drewN ?_ _))) ?_ rfl rfl rfl
        exact (R6.out.row.put 16 (.int .i64 5)).put 6 (.int .i64 15)
      | true =>
        have HR : Hid (roo16 G1 = wri16 (takG16 G1)) := Lib.hid (by unfold roo16; rw [if_neg h0, hb]; rfl)
        rw [HR.out] at HE
        obtain ⟨G6, hG6⟩ : ∃ G6, takG16 G1 = G6 := ⟨_, rfl⟩
        rw [hb, hG6] at KT
        rw [hG6] at HE
        clear h0 hb hG6 HR
        go_step3
        try simp only [Exit.inBlock]
        try simp only [Exit.then]
        refine fwd_goto folJ1 ?_
        conv => arg 2; whnf
        go_wp2_with fail
        refine (KT.out _).mono ?_
        rintro e w6 ⟨vf6, vo6, vl6, rfl, r6, o6, n6⟩
        have R6 := Lib.hid r6
        have C6 := Lib.hid (ch16 (O2.out.drewN _) (fun _ h => .inl h) o6 n6)
        clear r6 o6 n6
        obtain ⟨Al, cl, hvl⟩ := own_open14 R6.out.load
        obtain ⟨nl, hnl⟩ : ∃ n, (G6).load.length = n := ⟨_, rfl⟩
        obtain ⟨kl, hkl⟩ : ∃ n, (G6).sto = n := ⟨_, rfl⟩
        rw [hnl] at hvl
        have yc6 := R6.out.row.cell 6
        have yc13 := R6.out.row.cell 13
        have yc14 := R6.out.row.cell 14
        have yf6 := R6.out.row.soft 6
        simp only [gvC, List.getElem?_cons_zero, List.getElem?_cons_succ] at yc6 yc13 yc14
        rw [hvl] at yc13
        rw [hkl] at yc14
        have HKL : Hid ((G6).load.length = nl ∧ (G6).sto = kl) := Lib.hid ⟨hnl, hkl⟩
        clear hvl hnl hkl
        by_cases hkn : kl = nl
        · have e9 : ((kl : Int) == (nl : Int)) = true := by simp [hkn]
          have HW : Hid (wri16 (G6) = { G6 with st := 9 }) := Lib.hid (by unfold wri16; rw [if_pos (by rw [HKL.out.1, HKL.out.2]; exact hkn)])
          clear hkn
          go_wp2
          go_step3
          go_wp2
          go_quiet (fail)
          go_wp2
          go_ret2
          rw [HE.out, HW.out]
          refine GP16.more C6.out.1 C6.out.2 R6.out (by repeat (with_reducible (first | exact Only.refl _ _ | refine Only.put16 ?_ _ _ | refine Only.drewN ?_ _))) ?_ rfl rfl rfl
          exact ((R6.out.row.put 6 (.int .i64 8)).drewN _).put 6 (.int .i64 9)
        · have e9 : ((kl : Int) == (nl : Int)) = false := by simp; omega
          have HW : Hid (wri16 (G6) = { G6 with st := 8 }) := Lib.hid (by unfold wri16; rw [if_neg (by rw [HKL.out.1, HKL.out.2]; exact hkn)])
          clear hkn
          go_wp2
          go_step3
          go_wp2
          go_quiet (fail)
          go_wp2
          go_ret2
          rw [HE.out, HW.out]
          refine GP16.more C6.out.1 C6.out.2 R6.out (by repeat (with_reducible (first | exact Only.refl _ _ | refine Only.put16 ?_ _ _ | refine Only.drewN ?_ _))) ?_ rfl rfl rfl
          exact (R6.out.row.put 6 (.int .i64 8)).drewN _

set_option maxRecDepth 100000 in
set_option maxHeartbeats 2000000 in
theorem fol16_s7 (x : Int) (w : World) (r : GAt w g G vf vo vl) (hst : G.st = 7) (hl : G.out.length ≤ 100) (hf : G.free.length ≤ 64) (hr : 0 < G.ret ∧ G.ret ≤ 65535) :
    Calls Tryd.prog 68 #[.pointer (some ⟨g, 0, none⟩), .int .i64 x] w (GP16 g (aft16 G x).1 vf vo vl (ansV16 (aft16 G x).2) w) := by
  have R := Lib.hid r
  by_cases hx : x ∈ G.out
  · have KR := Lib.hid (regain16_yes x w r hl (by omega) hx)
    obtain ⟨q1, hq⟩ : ∃ q, G.ret - 1 = q := ⟨_, rfl⟩
    obtain ⟨G1, hG⟩ : ∃ G1 : Gv, G1 = { regG16 G x with ret := q1 } := ⟨_, rfl⟩
    have HQ : Hid (G1.ret = q1) := Lib.hid (by rw [hG])
    have HL1 : Hid (G1.out.length ≤ 100 ∧ G1.free.length ≤ 100) := Lib.hid (by
      rw [hG]
      refine ⟨Nat.le_trans ?_ hl, ?_⟩
      · show (G.out.erase x).length ≤ G.out.length
        exact List.length_erase_le
      · show (G.free ++ [x]).length ≤ 100
        rw [List.length_append]
        simp
        omega)
    have HE : Hid (aft16 G x = (roo16 G1, none)) := Lib.hid (by unfold aft16; simp [hst, hx, hG, hq])
    have c6 := r.row.cell 6
    simp only [gvC, List.getElem?_cons_zero, List.getElem?_cons_succ] at c6
    rw [hst] at c6
    have hgr : (regG16 G x).ret = G.ret := rfl
    obtain ⟨G0, hG0⟩ : ∃ G0, regG16 G x = G0 := ⟨_, rfl⟩
    rw [hG0] at KR hG hgr
    have hwr : IntKind.i64.wrap (G.ret - 1) = q1 := by rw [hq]; exact IntWalk.i64_in _ (by omega)
    have HG := Lib.hid hG
    have HGR := Lib.hid hgr
    have HQR := Lib.hid hq
    clear r hst hx hG hG0 hgr
    go_enter Tryd.func68, Tryd.ntmps68
    go_wp2
    refine wp_scope_fwd 3 folJ (fun l => by kernel_rfl) ?_
    go_wp2_with fail
    refine KR.out.mono ?_
    rintro e w1 ⟨vf1, vo1, vl1, rfl, r1, o1, n1⟩
    have zc15 := r1.row.cell 15
    have zf15 := r1.row.soft 15
    simp only [gvC, List.getElem?_cons_zero, List.getElem?_cons_succ] at zc15
    rw [HGR.out] at zc15
    obtain ⟨w2, hw2⟩ : ∃ w2, w2 = w1.setCell ⟨g, 15, none⟩ (.int .i64 q1) := ⟨_, rfl⟩
    have o2 : Only (· = g) w1 w2 := by rw [hw2]; exact only_put16 _ _ _ _
    have r2 : GAt w2 g G1 vf1 vo1 vl1 := by rw [HG.out]; exact r1.turn o2 (by rw [hw2]; exact r1.row.put 15 (.int .i64 q1)) rfl rfl rfl
    have R2 := Lib.hid r2
    have C2 := Lib.hid (ch16 o1 n1 (o2.mono (T := own16 g vf1 vo1 vl1) (fun _ _ h => .inl h)) (fun _ h => .inl h))
    have KT := Lib.hid (take16_any w2 r2 HL1.out.1 HL1.out.2)
    have uc6 := r2.row.cell 6
    have uc15 := r2.row.cell 15
    have uc16 := r2.row.cell 16
    have uf6 := r2.row.soft 6
    have uf16 := r2.row.soft 16
    simp only [gvC, List.getElem?_cons_zero, List.getElem?_cons_succ] at uc6 uc15 uc16
    rw [HQ.out] at uc15
    clear r1 o1 n1 o2 r2
    go_wp2
    rw [← hw2]
    clear hw2
    by_cases h0 : 0 < G1.ret
    · have e0 : ((0 : Int) < q1) := by rw [← HQ.out]; exact h0
      have HR : Hid (roo16 G1 = { G1 with st := 7 }) := Lib.hid (by unfold roo16; rw [if_pos h0])
      clear h0
      go_step3
      try simp only [Exit.inBlock]
      try simp only [Exit.then]
      refine fwd_goto folJ1 ?_
      conv => arg 2; whnf
      go_wp2
      go_ret2
      rw [HE.out, HR.out]
      refine GP16.more C2.out.1 C2.out.2 R2.out (by repeat (with_reducible (first | exact Only.refl _ _ | refine Only.put16 ?_ _ _ | refine Only.drewN ?_ _))) ?_ rfl rfl rfl
      exact Row.put R2.out.row 6 (.int .i64 7)
    · have e0 : ¬ ((0 : Int) < q1) := by rw [← HQ.out]; exact h0
      cases hb : takB16 G1 with
      | false =>
        have HR : Hid (roo16 G1 = fin16 G1 5) := Lib.hid (by unfold roo16; rw [if_neg h0, hb]; rfl)
        have HT : Hid (takG16 G1 = G1) := Lib.hid (by
          unfold takB16 at hb
          unfold takG16
          split
          · rfl
          · rename_i d fs he
            rw [he] at hb
            cases hb)
        rw [hb, HT.out] at KT
        clear h0 hb
        go_step3
        try simp only [Exit.inBlock]
        try simp only [Exit.then]
        refine fwd_goto folJ1 ?_
        conv => arg 2; whnf
        go_wp2_with fail
        refine KT.out.mono ?_
        rintro e w6 ⟨vf6, vo6, vl6, rfl, r6, o6, n6⟩
        have zc6 := r6.row.cell 6
        have zc16 := r6.row.cell 16
        have zf6 := r6.row.soft 6
        have zf16 := r6.row.soft 16
        simp only [gvC, List.getElem?_cons_zero, List.getElem?_cons_succ] at zc6 zc16
        have R6 := Lib.hid r6
        have C6 := Lib.hid (ch16 C2.out.1 C2.out.2 o6 n6)
        clear r6 o6 n6
        go_wp2
        go_step3
        try simp only [Exit.inBlock]
        try simp only [Exit.then]
        refine fwd_goto folJ0 ?_
        conv => arg 2; whnf
        go_wp2
        go_ret2
        rw [HE.out, HR.out]
        refine GP16.more C6.out.1 C6.out.2 R6.out (by repeat (with_reducible (first | exact Only.refl _ _ | refine Only.put16 ?_ _ _ | refine Only.drewN ?_ _))) ?_ rfl rfl rfl
        exact (R6.out.row.put 16 (.int .i64 5)).put 6 (.int .i64 15)
      | true =>
        have HR : Hid (roo16 G1 = wri16 (takG16 G1)) := Lib.hid (by unfold roo16; rw [if_neg h0, hb]; rfl)
        rw [HR.out] at HE
        obtain ⟨G6, hG6⟩ : ∃ G6, takG16 G1 = G6 := ⟨_, rfl⟩
        rw [hb, hG6] at KT
        rw [hG6] at HE
        clear h0 hb hG6 HR
        go_step3
        try simp only [Exit.inBlock]
        try simp only [Exit.then]
        refine fwd_goto folJ1 ?_
        conv => arg 2; whnf
        go_wp2_with fail
        refine KT.out.mono ?_
        rintro e w6 ⟨vf6, vo6, vl6, rfl, r6, o6, n6⟩
        have R6 := Lib.hid r6
        have C6 := Lib.hid (ch16 C2.out.1 C2.out.2 o6 n6)
        clear r6 o6 n6
        obtain ⟨Al, cl, hvl⟩ := own_open14 R6.out.load
        obtain ⟨nl, hnl⟩ : ∃ n, (G6).load.length = n := ⟨_, rfl⟩
        obtain ⟨kl, hkl⟩ : ∃ n, (G6).sto = n := ⟨_, rfl⟩
        rw [hnl] at hvl
        have yc6 := R6.out.row.cell 6
        have yc13 := R6.out.row.cell 13
        have yc14 := R6.out.row.cell 14
        have yf6 := R6.out.row.soft 6
        simp only [gvC, List.getElem?_cons_zero, List.getElem?_cons_succ] at yc6 yc13 yc14
        rw [hvl] at yc13
        rw [hkl] at yc14
        have HKL : Hid ((G6).load.length = nl ∧ (G6).sto = kl) := Lib.hid ⟨hnl, hkl⟩
        clear hvl hnl hkl
        by_cases hkn : kl = nl
        · have e9 : ((kl : Int) == (nl : Int)) = true := by simp [hkn]
          have HW : Hid (wri16 (G6) = { G6 with st := 9 }) := Lib.hid (by unfold wri16; rw [if_pos (by rw [HKL.out.1, HKL.out.2]; exact hkn)])
          clear hkn
          go_wp2
          go_step3
          go_wp2
          go_quiet (fail)
          go_wp2
          go_ret2
          rw [HE.out, HW.out]
          refine GP16.more C6.out.1 C6.out.2 R6.out (by repeat (with_reducible (first | exact Only.refl _ _ | refine Only.put16 ?_ _ _ | refine Only.drewN ?_ _))) ?_ rfl rfl rfl
          exact ((R6.out.row.put 6 (.int .i64 8)).drewN _).put 6 (.int .i64 9)
        · have e9 : ((kl : Int) == (nl : Int)) = false := by simp; omega
          have HW : Hid (wri16 (G6) = { G6 with st := 8 }) := Lib.hid (by unfold wri16; rw [if_neg (by rw [HKL.out.1, HKL.out.2]; exact hkn)])
          clear hkn
          go_wp2
          go_step3
          go_wp2
          go_quiet (fail)
          go_wp2
          go_ret2
          rw [HE.out, HW.out]
          refine GP16.more C6.out.1 C6.out.2 R6.out (by repeat (with_reducible (first | exact Only.refl _ _ | refine Only.put16 ?_ _ _ | refine Only.drewN ?_ _))) ?_ rfl rfl rfl
          exact (R6.out.row.put 6 (.int .i64 8)).drewN _
  · have KR := Lib.hid (regain16_no x w r hl hx)
    have HE : Hid (aft16 G x = (fin16 G 10, none)) := Lib.hid (by unfold aft16; simp [hst, hx])
    have c6 := r.row.cell 6
    have c16 := r.row.cell 16
    have f6 := r.row.soft 6
    have f16 := r.row.soft 16
    simp only [gvC, List.getElem?_cons_zero, List.getElem?_cons_succ] at c6 c16
    rw [hst] at c6
    clear r hst hx
    go_enter Tryd.func68, Tryd.ntmps68
    go_wp2
    refine wp_scope_fwd 3 folJ (fun l => by kernel_rfl) ?_
    go_wp2_with fail
    refine KR.out.mono ?_
    rintro e w' ⟨rfl, rfl⟩
    go_wp2
    go_step3
    try simp only [Exit.inBlock]
    try simp only [Exit.then]
    refine fwd_goto folJ0 ?_
    conv => arg 2; whnf
    go_wp2
    go_ret2
    rw [HE.out]
    refine GP16.one R.out (by repeat (with_reducible (first | exact Only.refl _ _ | refine Only.put16 ?_ _ _ | refine Only.drewN ?_ _))) ?_ rfl rfl rfl
    exact (R.out.row.put 16 (.int .i64 10)).put 6 (.int .i64 15)

/-- A new link is laid. -/
theorem GAt.setLink {w w1 : World} (r : GAt w g G vf vo vl) {f n : Nat} (hb : Below w.heap.size w w1) (hf : Row w1 f 3 (ints (upto16 n))) (hfn : w.heap.size ≤ f) (hn : n ≤ 64) :
    GAt (((((w1.setCell ⟨g, 8, none⟩ (.bool false)).setCell ⟨g, 9, none⟩ (.slice (some ⟨f, 0, none⟩) n n)).setCell ⟨g, 10, none⟩ (.slice none 0 0)).setCell ⟨g, 11, none⟩ (.int .i64 0)).setCell ⟨g, 12, none⟩ (.int .i64 0)) g { G with linked := false, free := upto16 n, out := [], next := 0, tail := 0 } (.slice (some ⟨f, 0, none⟩) n n) (.slice none 0 0) vl ∧
    Only (own16 g vf vo vl) w (((((w1.setCell ⟨g, 8, none⟩ (.bool false)).setCell ⟨g, 9, none⟩ (.slice (some ⟨f, 0, none⟩) n n)).setCell ⟨g, 10, none⟩ (.slice none 0 0)).setCell ⟨g, 11, none⟩ (.int .i64 0)).setCell ⟨g, 12, none⟩ (.int .i64 0)) ∧ ∀ x, own16 g (.slice (some ⟨f, 0, none⟩) n n) (.slice none 0 0) vl x → own16 g vf vo vl x ∨ w.heap.size ≤ x := by
  have R := r.below hb
  have ho : Only (· = g) w1 (((((w1.setCell ⟨g, 8, none⟩ (.bool false)).setCell ⟨g, 9, none⟩ (.slice (some ⟨f, 0, none⟩) n n)).setCell ⟨g, 10, none⟩ (.slice none 0 0)).setCell ⟨g, 11, none⟩ (.int .i64 0)).setCell ⟨g, 12, none⟩ (.int .i64 0)) :=
    ((((only_put16 w1 g 8 _).put16 9 _).put16 10 _).put16 11 _).put16 12 _
  have hr := ((((R.row.put 8 (.bool false)).put 9 (.slice (some ⟨f, 0, none⟩) n n)).put 10 (.slice none 0 0)).put 11 (.int .i64 0)).put 12 (.int .i64 0)
  have hgl := r.row.lt
  have hl := upto16_len n
  refine ⟨⟨hr, ?_, World.ownsRow_nil _ _ _ _, ?_, (fun _ _ h => by cases h), fun x hx e => ?_, (fun _ h => by cases h)⟩, (Only.of_below hb _).trans (ho.mono (fun _ _ h => .inl h)), fun x h => ?_⟩
  · refine ⟨by show (ints (upto16 n)).length = (upto16 n).length * 1; rw [ints_len, Nat.mul_one], .inr ⟨f, n, (ints (upto16 n)).toArray, by show _ = Value.slice _ (upto16 n).length _; rw [hl], Nat.zero_le _, hf.only ho (by omega), by show (upto16 n).length ≤ n; omega, by unfold maxLen; omega, by simp [ints_len, hl], ?_⟩⟩
    show List.take ((upto16 n).length * 1) (ints (upto16 n)) = ints (upto16 n)
    rw [List.take_of_length_le (by rw [ints_len]; omega)]
  · exact own_quiet R.load (fun x hx => ho.block x (R.load.lt x hx).2 (fun e => R.lg (by rw [hx, e])))
  · simp only [Value.ownBlock, Option.some.injEq] at hx
    have := (r.load.lt x e).2
    omega
  · rcases h with h | h | h | h
    · exact .inl (.inl h)
    · simp only [Value.ownBlock, Option.some.injEq] at h
      exact .inr (by omega)
    · cases h
    · exact .inl (.inr (.inr (.inr h)))

set_option maxRecDepth 100000 in
set_option maxHeartbeats 2000000 in
theorem fol16_s4 (x : Int) (w : World) (r : GAt w g G vf vo vl) (hst : G.st = 4) (hR : G.R ≤ 64) :
    Calls Tryd.prog 68 #[.pointer (some ⟨g, 0, none⟩), .int .i64 x] w (GP16 g (aft16 G x).1 vf vo vl (ansV16 (aft16 G x).2) w) := by
  have R := Lib.hid r
  have UN := Lib.hid (unlinked16_any G.R hR w)
  have HE : Hid (aft16 G x = (idle16 { G with linked := false, free := upto16 G.R, out := [], next := 0, tail := 0 }, some 8)) := Lib.hid (by unfold aft16; simp [hst])
  have c1 := r.row.cell 1
  have c6 := r.row.cell 6
  simp only [gvC, List.getElem?_cons_zero, List.getElem?_cons_succ] at c1 c6
  rw [hst] at c6
  clear r hst
  go_enter Tryd.func68, Tryd.ntmps68
  go_wp2
  refine wp_scope_fwd 3 folJ (fun l => by kernel_rfl) ?_
  go_wp2_with fail
  refine UN.out.mono ?_
  rintro e w1 ⟨f, rfl, rf, hf, hb⟩
  have S1 := Lib.hid (R.out.setLink hb rf hf hR)
  have R1 := Lib.hid (R.out.below hb)
  have zc8 := R1.out.row.cell 8
  have zc9 := R1.out.row.cell 9
  have zc10 := R1.out.row.cell 10
  have zc11 := R1.out.row.cell 11
  have zc12 := R1.out.row.cell 12
  have zf8 := R1.out.row.soft 8
  have zf9 := R1.out.row.soft 9
  have zf10 := R1.out.row.soft 10
  have zf11 := R1.out.row.soft 11
  have zf12 := R1.out.row.soft 12
  simp only [gvC, List.getElem?_cons_zero, List.getElem?_cons_succ] at zc8 zc9 zc10 zc11 zc12
  have KE := Lib.hid (end16_any 8 _ S1.out.1)
  clear rf hf hb
  go_wp2_with fail
  refine KE.out.mono ?_
  rintro e w2 ⟨vf2, vo2, vl2, rfl, r2, o2, n2⟩
  have R2 := Lib.hid r2
  have O2 := Lib.hid o2
  have N2 := Lib.hid n2
  clear r2 o2 n2
  go_wp2
  go_ret2
  rw [HE.out]
  exact GP16.trans S1.out.2.1 S1.out.2.2 ⟨_, _, _, rfl, R2.out, O2.out, N2.out⟩

/-- What follow asks of the numbers. -/
structure Fit16 (G : Gv) : Prop where
  st : 1 ≤ G.st ∧ G.st ≤ 15
  R : G.R ≤ 64
  out : G.out.length ≤ 64
  free : G.free.length ≤ 64
  sto : G.sto ≤ 100
  ret : G.st = 7 → 0 < G.ret ∧ G.ret ≤ 65535

theorem fol16_any (x : Int) (w : World) (r : GAt w g G vf vo vl) (h : Fit16 G) :
    Calls Tryd.prog 68 #[.pointer (some ⟨g, 0, none⟩), .int .i64 x] w (GP16 g (aft16 G x).1 vf vo vl (ansV16 (aft16 G x).2) w) := by
  obtain ⟨h1, h15⟩ := h.st
  have ho := h.out
  have hf := h.free
  have : G.st = 1 ∨ G.st = 2 ∨ G.st = 3 ∨ G.st = 4 ∨ G.st = 5 ∨ G.st = 6 ∨ G.st = 7 ∨ G.st = 8 ∨ G.st = 9 ∨ G.st = 10 ∨ G.st = 11 ∨ G.st = 12 ∨ G.st = 13 ∨ G.st = 14 ∨ G.st = 15 := by omega
  rcases this with e | e | e | e | e | e | e | e | e | e | e | e | e | e | e
  · exact fol16_s1 x w r e
  · exact fol16_s2 x w r e
  · exact fol16_s3 x w r e
  · exact fol16_s4 x w r e h.R
  · exact fol16_s5 x w r e
  · exact fol16_s6 x w r e (by omega) (by omega)
  · exact fol16_s7 x w r e (by omega) hf (h.ret e)
  · exact fol16_s8 x w r e h.sto
  · exact fol16_s9 x w r e
  · exact fol16_s10 x w r e
  · exact fol16_s11 x w r e
  · exact fol16_s12 x w r e
  · exact fol16_s13 x w r e
  · exact fol16_s14 x w r e
  · exact fol16_s15 x w r e

end

#print axioms fol16_any
end Go.Proofs.YtgdbaaoifnedbaaDoor
