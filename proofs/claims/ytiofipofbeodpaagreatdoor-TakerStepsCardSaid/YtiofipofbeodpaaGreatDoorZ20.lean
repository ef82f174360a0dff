/-
  Texts merged, with what one theorem needs of them.
  Conditions: those that each theorem states.
-/
import Derived.Test.YtiofipofbeodpaaGreatDoorRows
import Derived.Test.YtiofipofbeodpaaGreatDoorZ1
import Derived.Test.YtiofipofbeodpaaGreatDoorZ2
import Derived.Test.YtiofipofbeodpaaGreatDoorZ3
import Derived.Test.YtiofipofbeodpaaGreatDoorZ4
import Derived.Test.YtiofipofbeodpaaGreatDoorZ5
import Derived.Test.YtiofipofbeodpaaGreatDoorZ6
import Derived.Test.YtiofipofbeodpaaGreatDoorZ7
import Derived.Test.YtiofipofbeodpaaGreatDoorZ8
import Derived.Test.YtiofipofbeodpaaGreatDoorZ9
import Derived.Test.YtiofipofbeodpaaGreatDoorZ10
import Derived.Test.YtiofipofbeodpaaGreatDoorZ11
import Derived.Test.YtiofipofbeodpaaGreatDoorZ12
import Derived.Test.YtiofipofbeodpaaGreatDoorZ13
import Derived.Test.YtiofipofbeodpaaGreatDoorZ14
import Derived.Test.YtiofipofbeodpaaGreatDoorZ15
import Derived.Test.YtiofipofbeodpaaGreatDoorZ16
import Derived.Test.YtiofipofbeodpaaGreatDoorZ17
import Derived.Test.YtiofipofbeodpaaGreatDoorZ18
import Derived.Test.YtiofipofbeodpaaGreatDoorZ19
import Derived.Below
import Derived.BigQuiet
import Derived.Deep.AppendLies
import Derived.Deep.DeepMust
import Derived.Deep.Draws
import Derived.Deep.MidRow
import Derived.Deep.OwnRows
import Derived.Deep.QuietTactic
import Derived.Deep.RegionHeld3
import Derived.Deep.RegionLaw
import Derived.Deep.RegionWith
import Derived.Defers
import Derived.Great.BuildSlice
import Derived.Handy
import Derived.IntWalk
import Derived.KernelRfl
import Derived.LaidLaws
import Derived.LaidMore
import Derived.Laws.BitsLemmas
import Derived.Laws.CopyOwn
import Derived.Laws.OwnMore
import Derived.Laws.Rows
import Derived.Lib.Hide
import Derived.Lib.SliceRun
import Derived.MakeChecks
import Derived.Maps.AppendAt
import Derived.OpenShut
import Derived.ProofKit
import Derived.Recover
import Derived.RegionTactic
import Derived.Scope
import Derived.WalkKit
import Derived.WalkMore
namespace Go.Proofs.YtiofipofbeodpaaGreatDoor

section
open Go.ChangeShapes Go.WideShapes Go.ChangeAt Go.RowKit
/-- What follows from an access, in numbers: the call is over with a result; behind a word. -/
def fin17 (T : Tk) (n : Int) : Tk := { T with st := 14, res := n }
def wor17 (T : Tk) : Tk := if (T.load.length : Int) < T.cnt then { T with st := 9 } else { T with st := 14 }
/-- What follows from an access that has read x: the taker then, and the result if the call has ended. -/
def aft17 (T : Tk) (x : Int) : Tk × Option Int :=
  if T.st = 1 then ({ askT17 T x with st := askS17 T x }, none)
  else if T.st = 4 then (idle17 { T with tab := clearL15 T.tab, linked := false, head := 0, used := 0 }, some 8)
  else if T.st = 5 then (if x = ep17 T then ({ T with linked := true, st := 6 }, none) else (idle17 T, some 9))
  else if T.st = 6 then (if looE17 T (subW x T.head) = 0 then { T with res := 0, st := 7 } else fin17 T (looE17 T (subW x T.head)), none)
  else if T.st = 7 then (if (0 ≤ x ∧ x < (T.R : Int)) ∧ x ∉ hs17 T then { T with slot := x, st := 8 } else fin17 T 10, none)
  else if T.st = 8 then (if 8 < x then fin17 T 10 else wor17 { T with cnt := x }, none)
  else if T.st = 9 then (wor17 { T with load := T.load ++ [x] }, none)
  else if T.st = 14 then (idle17 (judT17 T x), some (judE17 T x))
  else ({ T with st := T.st + 1 }, none)
def ansV17 (o : Option Int) : Value := .tuple #[.bool o.isSome, .int .i64 (o.getD 0)]
/-- The body of follow, and the code behind its labels. -/
noncomputable def fol17B : Option Code := (Tryz.prog.funcs[43]?).bind (fun f => f.body)
noncomputable def fol17C : Code := match fol17B with | some (Code.seq _ (Code.scope c)) => c | _ => Code.skip
noncomputable def fol17J (l : Nat) : Option Code := findLabel fol17C l
noncomputable def fol17R (l : Nat) : Code := (findLabel fol17C l).getD .skip
theorem fol17J0 : fol17J 0 = some (fol17R 0) := by kernel_rfl
theorem fol17J1 : fol17J 1 = some (fol17R 1) := by kernel_rfl
section
variable {k s : Nat} {T : Tk} {vl vg : Value}
/-- Another list lies in the place of the words. -/
theorem KAt.setLoad {w w1 : World} (r : KAt w k T s vl vg) {v' : Value} {xs : List Int} (ho : Only (fun x => vl.ownBlock = some x) w w1) (o1 : w1.ownsRow 0 3 1 v' xs.length (ints xs)) (hat : v'.ownBlock = vl.ownBlock ∨ ∃ x, v'.ownBlock = some x ∧ w.heap.size ≤ x) :
    KAt (w1.setCell ⟨k, 15, none⟩ v') k { T with load := xs } s v' vg ∧ Only (own17 k s vl vg) w (w1.setCell ⟨k, 15, none⟩ v') ∧ ∀ x, own17 k s v' vg x → own17 k s vl vg x ∨ w.heap.size ≤ x := by
  have r1 := r.row.only ho (fun e => r.lk e)
  have h2 := only_put17 w1 k 15 v'
  have hne : ∀ x, v'.ownBlock = some x → ¬ x = k := fun x hx e => by
    rcases hat with h | ⟨y, h, hy⟩
    · exact r.lk (by rw [← h, hx, e])
    · rw [hx] at h; injection h with h; have := r.row.lt; omega
  have hO := (ho.mono (T := own17 k s vl vg) (fun _ _ h => .inr (.inr (.inl h)))).trans (h2.mono (fun _ _ h => .inl h))
  refine ⟨⟨⟨r1.put 15 v', (r.tab.only ho (fun e => r.ls e)).only h2 r.sk, own_quiet o1 (fun x hx => h2.block x (o1.lt x hx).2 (hne x hx)), ?_⟩, fun x hx e => ?_⟩, hO, fun x h => ?_⟩
  · exact own_quiet (own_quiet r.got (fun x hx => ho.block x (r.got.lt x hx).2 (fun e => r.lg x e hx))) (fun x hx => h2.block x (Nat.lt_of_lt_of_le (r.got.lt x hx).2 ho.size) (fun e => r.gk (by rw [hx, e])))
  · rcases hat with h | ⟨y, h, hy⟩
    · exact r.lg x (by rw [← h, hx]) e
    · rw [hx] at h; injection h with h; have := (r.got.lt x e).2; omega
  · rcases h with h | h | h | h
    · exact .inl (.inl h)
    · exact .inl (.inr (.inl h))
    · rcases hat with e | ⟨y, e, hy⟩
      · exact .inl (.inr (.inr (.inl (by rw [← e, h]))))
      · rw [h] at e; injection e with e; exact .inr (by omega)
    · exact .inl (.inr (.inr (.inr h)))
set_option maxRecDepth 100000 in
set_option maxHeartbeats 2000000 in
theorem fol17_s2 (x : Int) (w : World) (r : KAt w k T s vl vg) (hst : T.st = 2) :
    Calls Tryz.prog 43 #[.pointer (some ⟨k, 0, none⟩), .int .i64 x] w (KP17 k s (aft17 T x).1 vl vg (ansV17 (aft17 T x).2) w) := by
  have R := Lib.hid r
  have HE : Hid (aft17 T x = ({ T with st := 3 }, none)) := Lib.hid (by unfold aft17; simp [hst])
  have HR : Hid (Row (w.setCell ⟨k, 6, none⟩ (.int .i64 3)) k 88 (tkC { T with st := 3 } s vl vg)) := Lib.hid (r.row.put 6 (.int .i64 3))
  have c6 := r.row.cell 6
  have f6 := r.row.soft 6
  simp only [tkC, List.getElem?_cons_zero, List.getElem?_cons_succ] at c6
  rw [hst] at c6
  clear r hst
  go_enter Tryz.func43, Tryz.ntmps43
  go_wp2
  refine wp_scope_fwd 3 fol17J (fun l => by kernel_rfl) ?_
  go_wp2
  go_ret2
  rw [HE.out]
  exact KP17.one R.out (only_put17 _ _ _ _) HR.out rfl rfl rfl
set_option maxRecDepth 100000 in
set_option maxHeartbeats 2000000 in
theorem fol17_s3 (x : Int) (w : World) (r : KAt w k T s vl vg) (hst : T.st = 3) :
    Calls Tryz.prog 43 #[.pointer (some ⟨k, 0, none⟩), .int .i64 x] w (KP17 k s (aft17 T x).1 vl vg (ansV17 (aft17 T x).2) w) := by
  have R := Lib.hid r
  have HE : Hid (aft17 T x = ({ T with st := 4 }, none)) := Lib.hid (by unfold aft17; simp [hst])
  have HR : Hid (Row (w.setCell ⟨k, 6, none⟩ (.int .i64 4)) k 88 (tkC { T with st := 4 } s vl vg)) := Lib.hid (r.row.put 6 (.int .i64 4))
  have c6 := r.row.cell 6
  have f6 := r.row.soft 6
  simp only [tkC, List.getElem?_cons_zero, List.getElem?_cons_succ] at c6
  rw [hst] at c6
  clear r hst
  go_enter Tryz.func43, Tryz.ntmps43
  go_wp2
  refine wp_scope_fwd 3 fol17J (fun l => by kernel_rfl) ?_
  go_wp2
  go_ret2
  rw [HE.out]
  exact KP17.one R.out (only_put17 _ _ _ _) HR.out rfl rfl rfl
set_option maxRecDepth 100000 in
set_option maxHeartbeats 2000000 in
theorem fol17_s10 (x : Int) (w : World) (r : KAt w k T s vl vg) (hst : T.st = 10) :
    Calls Tryz.prog 43 #[.pointer (some ⟨k, 0, none⟩), .int .i64 x] w (KP17 k s (aft17 T x).1 vl vg (ansV17 (aft17 T x).2) w) := by
  have R := Lib.hid r
  have HE : Hid (aft17 T x = ({ T with st := 11 }, none)) := Lib.hid (by unfold aft17; simp [hst])
  have HR : Hid (Row (w.setCell ⟨k, 6, none⟩ (.int .i64 11)) k 88 (tkC { T with st := 11 } s vl vg)) := Lib.hid (r.row.put 6 (.int .i64 11))
  have c6 := r.row.cell 6
  have f6 := r.row.soft 6
  simp only [tkC, List.getElem?_cons_zero, List.getElem?_cons_succ] at c6
  rw [hst] at c6
  clear r hst
  go_enter Tryz.func43, Tryz.ntmps43
  go_wp2
  refine wp_scope_fwd 3 fol17J (fun l => by kernel_rfl) ?_
  go_wp2
  go_ret2
  rw [HE.out]
  exact KP17.one R.out (only_put17 _ _ _ _) HR.out rfl rfl rfl
set_option maxRecDepth 100000 in
set_option maxHeartbeats 2000000 in
theorem fol17_s11 (x : Int) (w : World) (r : KAt w k T s vl vg) (hst : T.st = 11) :
    Calls Tryz.prog 43 #[.pointer (some ⟨k, 0, none⟩), .int .i64 x] w (KP17 k s (aft17 T x).1 vl vg (ansV17 (aft17 T x).2) w) := by
  have R := Lib.hid r
  have HE : Hid (aft17 T x = ({ T with st := 12 }, none)) := Lib.hid (by unfold aft17; simp [hst])
  have HR : Hid (Row (w.setCell ⟨k, 6, none⟩ (.int .i64 12)) k 88 (tkC { T with st := 12 } s vl vg)) := Lib.hid (r.row.put 6 (.int .i64 12))
  have c6 := r.row.cell 6
  have f6 := r.row.soft 6
  simp only [tkC, List.getElem?_cons_zero, List.getElem?_cons_succ] at c6
  rw [hst] at c6
  clear r hst
  go_enter Tryz.func43, Tryz.ntmps43
  go_wp2
  refine wp_scope_fwd 3 fol17J (fun l => by kernel_rfl) ?_
  go_wp2
  go_ret2
  rw [HE.out]
  exact KP17.one R.out (only_put17 _ _ _ _) HR.out rfl rfl rfl
set_option maxRecDepth 100000 in
set_option maxHeartbeats 2000000 in
theorem fol17_s12 (x : Int) (w : World) (r : KAt w k T s vl vg) (hst : T.st = 12) :
    Calls Tryz.prog 43 #[.pointer (some ⟨k, 0, none⟩), .int .i64 x] w (KP17 k s (aft17 T x).1 vl vg (ansV17 (aft17 T x).2) w) := by
  have R := Lib.hid r
  have HE : Hid (aft17 T x = ({ T with st := 13 }, none)) := Lib.hid (by unfold aft17; simp [hst])
  have HR : Hid (Row (w.setCell ⟨k, 6, none⟩ (.int .i64 13)) k 88 (tkC { T with st := 13 } s vl vg)) := Lib.hid (r.row.put 6 (.int .i64 13))
  have c6 := r.row.cell 6
  have f6 := r.row.soft 6
  simp only [tkC, List.getElem?_cons_zero, List.getElem?_cons_succ] at c6
  rw [hst] at c6
  clear r hst
  go_enter Tryz.func43, Tryz.ntmps43
  go_wp2
  refine wp_scope_fwd 3 fol17J (fun l => by kernel_rfl) ?_
  go_wp2
  go_ret2
  rw [HE.out]
  exact KP17.one R.out (only_put17 _ _ _ _) HR.out rfl rfl rfl
set_option maxRecDepth 100000 in
set_option maxHeartbeats 2000000 in
theorem fol17_s13 (x : Int) (w : World) (r : KAt w k T s vl vg) (hst : T.st = 13) :
    Calls Tryz.prog 43 #[.pointer (some ⟨k, 0, none⟩), .int .i64 x] w (KP17 k s (aft17 T x).1 vl vg (ansV17 (aft17 T x).2) w) := by
  have R := Lib.hid r
  have HE : Hid (aft17 T x = ({ T with st := 14 }, none)) := Lib.hid (by unfold aft17; simp [hst])
  have HR : Hid (Row (w.setCell ⟨k, 6, none⟩ (.int .i64 14)) k 88 (tkC { T with st := 14 } s vl vg)) := Lib.hid (r.row.put 6 (.int .i64 14))
  have c6 := r.row.cell 6
  have f6 := r.row.soft 6
  simp only [tkC, List.getElem?_cons_zero, List.getElem?_cons_succ] at c6
  rw [hst] at c6
  clear r hst
  go_enter Tryz.func43, Tryz.ntmps43
  go_wp2
  refine wp_scope_fwd 3 fol17J (fun l => by kernel_rfl) ?_
  go_wp2
  go_ret2
  rw [HE.out]
  exact KP17.one R.out (only_put17 _ _ _ _) HR.out rfl rfl rfl
set_option maxRecDepth 100000 in
set_option maxHeartbeats 2000000 in
theorem fol17_s1 (x : Int) (w : World) (r : KAt w k T s vl vg) (hst : T.st = 1) :
    Calls Tryz.prog 43 #[.pointer (some ⟨k, 0, none⟩), .int .i64 x] w (KP17 k s (aft17 T x).1 vl vg (ansV17 (aft17 T x).2) w) := by
  have R := Lib.hid r
  have KA := Lib.hid (asked17_any x w r)
  have HE : Hid (aft17 T x = ({ askT17 T x with st := askS17 T x }, none)) := Lib.hid (by unfold aft17; simp [hst])
  have c6 := r.row.cell 6
  simp only [tkC, List.getElem?_cons_zero, List.getElem?_cons_succ] at c6
  rw [hst] at c6
  clear r hst
  go_enter Tryz.func43, Tryz.ntmps43
  go_wp2
  refine wp_scope_fwd 3 fol17J (fun l => by kernel_rfl) ?_
  go_wp2_with fail
  refine KA.out.mono ?_
  rintro e w1 ⟨vl1, vg1, rfl, r1, o1, n1⟩
  have zc6 := r1.row.cell 6
  have zf6 := r1.row.soft 6
  simp only [tkC, List.getElem?_cons_zero, List.getElem?_cons_succ] at zc6
  have R1 := Lib.hid r1
  have O1 := Lib.hid o1
  have N1 := Lib.hid n1
  clear r1 o1 n1
  go_wp2
  go_ret2
  rw [HE.out]
  exact KP17.more O1.out N1.out R1.out (only_put17 _ _ _ _) (R1.out.row.put 6 _) rfl rfl rfl
set_option maxRecDepth 100000 in
set_option maxHeartbeats 2000000 in
theorem fol17_s5 (x : Int) (w : World) (r : KAt w k T s vl vg) (hst : T.st = 5) :
    Calls Tryz.prog 43 #[.pointer (some ⟨k, 0, none⟩), .int .i64 x] w (KP17 k s (aft17 T x).1 vl vg (ansV17 (aft17 T x).2) w) := by
  have R := Lib.hid r
  have KA := Lib.hid (epoch17_any w r)
  have c6 := r.row.cell 6
  have f6 := r.row.soft 6
  simp only [tkC, List.getElem?_cons_zero, List.getElem?_cons_succ] at c6
  rw [hst] at c6
  obtain ⟨q, hq⟩ : ∃ q, ep17 T = q := ⟨_, rfl⟩
  rw [hq] at KA
  by_cases hx : x = q
  · have HE : Hid (aft17 T x = ({ T with linked := true, st := 6 }, none)) := Lib.hid (by unfold aft17; simp [hst, hq, hx])
    have e0 : (x != q) = false := by simp [hx]
    clear r hst hx hq
    go_enter Tryz.func43, Tryz.ntmps43
    go_wp2
    refine wp_scope_fwd 3 fol17J (fun l => by kernel_rfl) ?_
    go_wp2_with fail
    refine KA.out.mono ?_
    rintro e w1 ⟨rfl, b1⟩
    have R1 := Lib.hid (R.out.below b1)
    have zc6 := R1.out.row.cell 6
    have zc9 := R1.out.row.cell 9
    have zf6 := R1.out.row.soft 6
    have zf9 := R1.out.row.soft 9
    simp only [tkC, List.getElem?_cons_zero, List.getElem?_cons_succ] at zc6 zc9
    have O1 := Lib.hid (Only.of_below b1 (own17 k s vl vg))
    clear b1
    go_wp2
    go_ret2
    rw [HE.out]
    exact KP17.more O1.out (fun _ h => .inl h) R1.out ((only_put17 _ _ _ _).put17 _ _) ((R1.out.row.put 9 (.bool true)).put 6 (.int .i64 6)) rfl rfl rfl
  · have HE : Hid (aft17 T x = (idle17 T, some 9)) := Lib.hid (by unfold aft17; simp [hst, hq, hx])
    have e0 : (x != q) = true := by simpa using hx
    clear r hst hx hq
    go_enter Tryz.func43, Tryz.ntmps43
    go_wp2
    refine wp_scope_fwd 3 fol17J (fun l => by kernel_rfl) ?_
    go_wp2_with fail
    refine KA.out.mono ?_
    rintro e w1 ⟨rfl, b1⟩
    have R1 := Lib.hid (R.out.below b1)
    have KE := Lib.hid (end17_any 9 w1 R1.out.toKAtW)
    have O1 := Lib.hid (Only.of_below b1 (own17 k s vl vg))
    clear b1
    go_wp2_with fail
    refine KE.out.mono ?_
    rintro e w2 ⟨vl2, vg2, rfl, r2, o2, n2⟩
    have R2 := Lib.hid r2
    have O2 := Lib.hid o2
    have N2 := Lib.hid n2
    clear r2 o2 n2
    go_wp2
    go_ret2
    rw [HE.out]
    exact KP17.trans O1.out (fun _ h => .inl h) ⟨_, _, rfl, R2.out, O2.out, N2.out⟩
set_option maxRecDepth 100000 in
set_option maxHeartbeats 2000000 in
theorem fol17_s14 (x : Int) (w : World) (r : KAt w k T s vl vg) (hst : T.st = 14) :
    Calls Tryz.prog 43 #[.pointer (some ⟨k, 0, none⟩), .int .i64 x] w (KP17 k s (aft17 T x).1 vl vg (ansV17 (aft17 T x).2) w) := by
  have R := Lib.hid r
  have KA := Lib.hid (judge17_any x w r)
  have HE : Hid (aft17 T x = (idle17 (judT17 T x), some (judE17 T x))) := Lib.hid (by unfold aft17; simp [hst])
  have c6 := r.row.cell 6
  simp only [tkC, List.getElem?_cons_zero, List.getElem?_cons_succ] at c6
  rw [hst] at c6
  clear r hst
  go_enter Tryz.func43, Tryz.ntmps43
  go_wp2
  refine wp_scope_fwd 3 fol17J (fun l => by kernel_rfl) ?_
  go_wp2_with fail
  refine KA.out.mono ?_
  rintro e w1 ⟨vl1, vg1, rfl, r1, o1, n1⟩
  have KE := Lib.hid (end17_any (judE17 T x) w1 r1)
  have O1 := Lib.hid o1
  have N1 := Lib.hid n1
  clear r1 o1 n1
  go_wp2_with fail
  refine KE.out.mono ?_
  rintro e w2 ⟨vl2, vg2, rfl, r2, o2, n2⟩
  have R2 := Lib.hid r2
  have O2 := Lib.hid o2
  have N2 := Lib.hid n2
  clear r2 o2 n2
  go_wp2
  go_ret2
  rw [HE.out]
  exact KP17.trans O1.out N1.out ⟨_, _, rfl, R2.out, O2.out, N2.out⟩
set_option maxRecDepth 100000 in
set_option maxHeartbeats 2000000 in
theorem fol17_s4 (x : Int) (w : World) (r : KAt w k T s vl vg) (hst : T.st = 4) :
    Calls Tryz.prog 43 #[.pointer (some ⟨k, 0, none⟩), .int .i64 x] w (KP17 k s (aft17 T x).1 vl vg (ansV17 (aft17 T x).2) w) := by
  have R := Lib.hid r
  have KC := Lib.hid (clear15_any s T.tab w r.tab)
  unfold ptr at KC
  have HE : Hid (aft17 T x = (idle17 { T with tab := clearL15 T.tab, linked := false, head := 0, used := 0 }, some 8)) := Lib.hid (by unfold aft17; simp [hst])
  have c6 := r.row.cell 6
  have c8 := r.row.cell 8
  simp only [tkC, List.getElem?_cons_zero, List.getElem?_cons_succ] at c6 c8
  rw [hst] at c6
  clear r hst
  go_enter Tryz.func43, Tryz.ntmps43
  go_wp2
  refine wp_scope_fwd 3 fol17J (fun l => by kernel_rfl) ?_
  go_wp2_with fail
  refine KC.out.mono ?_
  rintro e w1 ⟨rfl, r1, o1⟩
  have R1 := Lib.hid (R.out.setTab o1 r1)
  have O1 := Lib.hid (o1.mono (T := own17 k s vl vg) (fun _ _ h => .inr (.inl h)))
  have zc9 := R1.out.row.cell 9
  have zc10 := R1.out.row.cell 10
  have zc11 := R1.out.row.cell 11
  have zf9 := R1.out.row.soft 9
  have zf10 := R1.out.row.soft 10
  have zf11 := R1.out.row.soft 11
  simp only [tkC, List.getElem?_cons_zero, List.getElem?_cons_succ] at zc9 zc10 zc11
  obtain ⟨w2, hw2⟩ : ∃ w2, w2 = ((w1.setCell ⟨k, 9, none⟩ (.bool false)).setCell ⟨k, 10, none⟩ (.int .i64 0)).setCell ⟨k, 11, none⟩ (.int .i64 0) := ⟨_, rfl⟩
  have o2 : Only (· = k) w1 w2 := by rw [hw2]; exact ((only_put17 w1 k 9 _).put17 10 _).put17 11 _
  have r2 : KAt w2 k { T with tab := clearL15 T.tab, linked := false, head := 0, used := 0 } s vl vg := R1.out.turn o2 (by rw [hw2]; exact ((R1.out.row.put 9 (.bool false)).put 10 (.int .i64 0)).put 11 (.int .i64 0)) rfl rfl rfl
  have KE := Lib.hid (end17_any 8 w2 r2.toKAtW)
  have O2 := Lib.hid (O1.out.trans (o2.mono (T := own17 k s vl vg) (fun _ _ h => .inl h)))
  rw [hw2] at KE
  have HW := Lib.hid hw2
  clear r1 o1 o2 r2 hw2
  go_wp2_with fail
  refine KE.out.mono ?_
  rw [← HW.out]
  rintro e w3 ⟨vl3, vg3, rfl, r3, o3, n3⟩
  have R3 := Lib.hid r3
  have O3 := Lib.hid o3
  have N3 := Lib.hid n3
  clear r3 o3 n3
  go_wp2
  go_ret2
  rw [HE.out]
  exact KP17.trans O2.out (fun _ h => .inl h) ⟨_, _, rfl, R3.out, O3.out, N3.out⟩
set_option maxRecDepth 100000 in
set_option maxHeartbeats 2000000 in
theorem fol17_s6 (x : Int) (w : World) (r : KAt w k T s vl vg) (hst : T.st = 6) (hR : T.R ≤ 64) (hh : (hs17 T).length ≤ 64) :
    Calls Tryz.prog 43 #[.pointer (some ⟨k, 0, none⟩), .int .i64 x] w (KP17 k s (aft17 T x).1 vl vg (ansV17 (aft17 T x).2) w) := by
  have R := Lib.hid r
  have AD := Lib.hid (fun W => sub_any x T.head W)
  obtain ⟨q, hq⟩ : ∃ q, subW x T.head = q := ⟨_, rfl⟩
  rw [hq] at AD
  have KL := Lib.hid (looked17_any q w r hR hh)
  obtain ⟨n, hn⟩ : ∃ n, looE17 T q = n := ⟨_, rfl⟩
  rw [hn] at KL
  have c6 := r.row.cell 6
  have c10 := r.row.cell 10
  simp only [tkC, List.getElem?_cons_zero, List.getElem?_cons_succ] at c6 c10
  rw [hst] at c6
  by_cases h0 : n = 0
  · have HE : Hid (aft17 T x = ({ T with res := n, st := 7 }, none)) := Lib.hid (by unfold aft17; simp [hst, hq, hn, h0])
    have e0 : (n != 0) = false := by simp [h0]
    clear r hst hq hn h0 hR hh
    go_enter Tryz.func43, Tryz.ntmps43
    go_wp2
    refine wp_scope_fwd 3 fol17J (fun l => by kernel_rfl) ?_
    go_wp2_with (go_at_call 74; refine (AD.out _).mono ?_; rintro e w' ⟨rfl, rfl⟩)
    refine KL.out.mono ?_
    rintro e w1 ⟨rfl, b1⟩
    have R1 := Lib.hid (R.out.below b1)
    have zc6 := R1.out.row.cell 6
    have zc16 := R1.out.row.cell 16
    have zf6 := R1.out.row.soft 6
    have zf16 := R1.out.row.soft 16
    simp only [tkC, List.getElem?_cons_zero, List.getElem?_cons_succ] at zc6 zc16
    have O1 := Lib.hid (Only.of_below b1 (own17 k s vl vg))
    clear b1
    go_wp2
    go_ret2
    rw [HE.out]
    exact KP17.more O1.out (fun _ h => .inl h) R1.out ((only_put17 _ _ _ _).put17 _ _) ((R1.out.row.put 16 (.int .i64 n)).put 6 (.int .i64 7)) rfl rfl rfl
  · have HE : Hid (aft17 T x = (fin17 T n, none)) := Lib.hid (by unfold aft17; simp [hst, hq, hn, h0])
    have e0 : (n != 0) = true := by simpa using h0
    clear r hst hq hn h0 hR hh
    go_enter Tryz.func43, Tryz.ntmps43
    go_wp2
    refine wp_scope_fwd 3 fol17J (fun l => by kernel_rfl) ?_
    go_wp2_with (go_at_call 74; refine (AD.out _).mono ?_; rintro e w' ⟨rfl, rfl⟩)
    refine KL.out.mono ?_
    rintro e w1 ⟨rfl, b1⟩
    have R1 := Lib.hid (R.out.below b1)
    have zc6 := R1.out.row.cell 6
    have zc16 := R1.out.row.cell 16
    have zf6 := R1.out.row.soft 6
    have zf16 := R1.out.row.soft 16
    simp only [tkC, List.getElem?_cons_zero, List.getElem?_cons_succ] at zc6 zc16
    have O1 := Lib.hid (Only.of_below b1 (own17 k s vl vg))
    clear b1
    go_wp2
    go_step3
    try simp only [Exit.inBlock]
    try simp only [Exit.then]
    refine fwd_goto fol17J0 ?_
    conv => arg 2; whnf
    go_wp2
    go_ret2
    rw [HE.out]
    exact KP17.more O1.out (fun _ h => .inl h) R1.out ((only_put17 _ _ _ _).put17 _ _) ((R1.out.row.put 16 (.int .i64 n)).put 6 (.int .i64 14)) rfl rfl rfl
set_option maxRecDepth 100000 in
set_option maxHeartbeats 2000000 in
theorem fol17_s7 (x : Int) (w : World) (r : KAt w k T s vl vg) (hst : T.st = 7) (hh : (hs17 T).length ≤ 64) :
    Calls Tryz.prog 43 #[.pointer (some ⟨k, 0, none⟩), .int .i64 x] w (KP17 k s (aft17 T x).1 vl vg (ansV17 (aft17 T x).2) w) := by
  have R := Lib.hid r
  have BE := Lib.hid (below17_any x (T.R : Int) w)
  have KH := Lib.hid (held17_any w r)
  have c1 := r.row.cell 1
  have c6 := r.row.cell 6
  have c16 := r.row.cell 16
  have f6 := r.row.soft 6
  have f16 := r.row.soft 16
  simp only [tkC, List.getElem?_cons_zero, List.getElem?_cons_succ] at c1 c6 c16
  rw [hst] at c6
  by_cases hb : 0 ≤ x ∧ x < (T.R : Int)
  · rw [decide_eq_true hb] at BE
    by_cases hm : x ∈ hs17 T
    · have HE : Hid (aft17 T x = (fin17 T 10, none)) := Lib.hid (by unfold aft17; simp [hst, hb, hm])
      have HM := Lib.hid (decide_eq_true hm)
      clear r hst hb hm
      go_enter Tryz.func43, Tryz.ntmps43
      go_wp2
      refine wp_scope_fwd 3 fol17J (fun l => by kernel_rfl) ?_
      go_wp2_with fail
      refine BE.out.mono ?_
      rintro e w' ⟨rfl, rfl⟩
      go_wp2_with fail
      refine KH.out.mono ?_
      rintro e w1 ⟨v1, rfl, o1, b1⟩
      have R1 := Lib.hid (R.out.below b1)
      have KC := Lib.hid (contains17_any _ (hs17 T) v1 x w1 (Lies.of_own o1) (by omega))
      rw [HM.out] at KC
      obtain ⟨A1, c1', rfl⟩ := own15_is o1
      have zc6 := R1.out.row.cell 6
      have zc16 := R1.out.row.cell 16
      have zf6 := R1.out.row.soft 6
      have zf16 := R1.out.row.soft 16
      simp only [tkC, List.getElem?_cons_zero, List.getElem?_cons_succ] at zc6 zc16
      have O1 := Lib.hid (Only.of_below b1 (own17 k s vl vg))
      clear o1 b1
      go_wp2_with fail
      refine KC.out.mono ?_
      rintro e w' ⟨rfl, rfl⟩
      go_wp2
      go_step3
      try simp only [Exit.inBlock]
      try simp only [Exit.then]
      refine fwd_goto fol17J0 ?_
      conv => arg 2; whnf
      go_wp2
      go_ret2
      rw [HE.out]
      exact KP17.more O1.out (fun _ h => .inl h) R1.out ((only_put17 _ _ _ _).put17 _ _) ((R1.out.row.put 16 (.int .i64 10)).put 6 (.int .i64 14)) rfl rfl rfl
    · have HE : Hid (aft17 T x = ({ T with slot := x, st := 8 }, none)) := Lib.hid (by unfold aft17; simp [hst, hb, hm])
      have HM := Lib.hid (decide_eq_false hm)
      clear r hst hb hm
      go_enter Tryz.func43, Tryz.ntmps43
      go_wp2
      refine wp_scope_fwd 3 fol17J (fun l => by kernel_rfl) ?_
      go_wp2_with fail
      refine BE.out.mono ?_
      rintro e w' ⟨rfl, rfl⟩
      go_wp2_with fail
      refine KH.out.mono ?_
      rintro e w1 ⟨v1, rfl, o1, b1⟩
      have R1 := Lib.hid (R.out.below b1)
      have KC := Lib.hid (contains17_any _ (hs17 T) v1 x w1 (Lies.of_own o1) (by omega))
      rw [HM.out] at KC
      obtain ⟨A1, c1', rfl⟩ := own15_is o1
      have zc6 := R1.out.row.cell 6
      have zc13 := R1.out.row.cell 13
      have zf6 := R1.out.row.soft 6
      have zf13 := R1.out.row.soft 13
      simp only [tkC, List.getElem?_cons_zero, List.getElem?_cons_succ] at zc6 zc13
      have O1 := Lib.hid (Only.of_below b1 (own17 k s vl vg))
      clear o1 b1
      go_wp2_with fail
      refine KC.out.mono ?_
      rintro e w' ⟨rfl, rfl⟩
      go_wp2
      go_ret2
      rw [HE.out]
      exact KP17.more O1.out (fun _ h => .inl h) R1.out ((only_put17 _ _ _ _).put17 _ _) ((R1.out.row.put 13 (.int .i64 x)).put 6 (.int .i64 8)) rfl rfl rfl
  · rw [decide_eq_false hb] at BE
    have HE : Hid (aft17 T x = (fin17 T 10, none)) := Lib.hid (by unfold aft17; simp only [hst]; simp [show ¬ ((0 ≤ x ∧ x < (T.R : Int)) ∧ x ∉ hs17 T) from fun h => hb h.1])
    clear r hst hb KH
    go_enter Tryz.func43, Tryz.ntmps43
    go_wp2
    refine wp_scope_fwd 3 fol17J (fun l => by kernel_rfl) ?_
    go_wp2_with fail
    refine BE.out.mono ?_
    rintro e w' ⟨rfl, rfl⟩
    go_wp2
    go_step3
    try simp only [Exit.inBlock]
    try simp only [Exit.then]
    refine fwd_goto fol17J0 ?_
    conv => arg 2; whnf
    go_wp2
    go_ret2
    rw [HE.out]
    exact KP17.one R.out ((only_put17 _ _ _ _).put17 _ _) ((R.out.row.put 16 (.int .i64 10)).put 6 (.int .i64 14)) rfl rfl rfl
set_option maxRecDepth 100000 in
set_option maxHeartbeats 2000000 in
theorem fol17_s8 (x : Int) (w : World) (r : KAt w k T s vl vg) (hst : T.st = 8) :
    Calls Tryz.prog 43 #[.pointer (some ⟨k, 0, none⟩), .int .i64 x] w (KP17 k s (aft17 T x).1 vl vg (ansV17 (aft17 T x).2) w) := by
  have R := Lib.hid r
  have c6 := r.row.cell 6
  have c14 := r.row.cell 14
  have c16 := r.row.cell 16
  have f6 := r.row.soft 6
  have f14 := r.row.soft 14
  have f16 := r.row.soft 16
  simp only [tkC, List.getElem?_cons_zero, List.getElem?_cons_succ] at c6 c14 c16
  rw [hst] at c6
  by_cases h8 : 8 < x
  · have HE : Hid (aft17 T x = (fin17 T 10, none)) := Lib.hid (by unfold aft17; simp [hst, h8])
    clear r hst
    go_enter Tryz.func43, Tryz.ntmps43
    go_wp2
    refine wp_scope_fwd 3 fol17J (fun l => by kernel_rfl) ?_
    go_wp2
    go_step3
    try simp only [Exit.inBlock]
    try simp only [Exit.then]
    refine fwd_goto fol17J0 ?_
    conv => arg 2; whnf
    go_wp2
    go_ret2
    rw [HE.out]
    exact KP17.one R.out ((only_put17 _ _ _ _).put17 _ _) ((R.out.row.put 16 (.int .i64 10)).put 6 (.int .i64 14)) rfl rfl rfl
  · obtain ⟨w2, hw2⟩ : ∃ w2, w2 = w.setCell ⟨k, 14, none⟩ (.int .i64 x) := ⟨_, rfl⟩
    have o2 : Only (· = k) w w2 := by rw [hw2]; exact only_put17 _ _ _ _
    obtain ⟨T1, hT⟩ : ∃ T1 : Tk, T1 = { T with cnt := x } := ⟨_, rfl⟩
    have r2 : KAt w2 k T1 s vl vg := by rw [hT]; exact r.turn o2 (by rw [hw2]; exact r.row.put 14 (.int .i64 x)) rfl rfl rfl
    have R2 := Lib.hid r2
    have O2 := Lib.hid (o2.mono (T := own17 k s vl vg) (fun _ _ h => .inl h))
    have HE : Hid (aft17 T x = (wor17 T1, none)) := Lib.hid (by unfold aft17; simp [hst, h8, hT])
    clear r hst o2 r2 hT
    go_enter Tryz.func43, Tryz.ntmps43
    go_wp2
    refine wp_scope_fwd 3 fol17J (fun l => by kernel_rfl) ?_
    go_wp2
    rw [← hw2]
    clear hw2
    obtain ⟨Al, cl, hvl⟩ := own_open14 R2.out.load
    obtain ⟨nl, hnl⟩ : ∃ n, (T1).load.length = n := ⟨_, rfl⟩
    obtain ⟨kl, hkl⟩ : ∃ n, (T1).cnt = n := ⟨_, rfl⟩
    rw [hnl] at hvl
    have yc6 := R2.out.row.cell 6
    have yc14 := R2.out.row.cell 14
    have yc15 := R2.out.row.cell 15
    have yf6 := R2.out.row.soft 6
    simp only [tkC, List.getElem?_cons_zero, List.getElem?_cons_succ] at yc6 yc14 yc15
    rw [hvl] at yc15
    rw [hkl] at yc14
    have HKL : Hid ((T1).load.length = nl ∧ (T1).cnt = kl) := Lib.hid ⟨hnl, hkl⟩
    clear hvl hnl hkl
    by_cases hkn : (nl : Int) < kl
    · have e9 : decide ((nl : Int) < kl) = true := by simpa using hkn
      have HW : Hid (wor17 (T1) = { T1 with st := 9 }) := Lib.hid (by unfold wor17; rw [if_pos (by rw [HKL.out.1, HKL.out.2]; exact hkn)])
      clear hkn
      go_step3
      try simp only [Exit.inBlock]
      try simp only [Exit.then]
      refine fwd_goto fol17J1 ?_
      conv => arg 2; whnf
      go_wp2
      go_quiet (fail)
      go_wp2
      go_ret2
      rw [HE.out, HW.out]
      refine KP17.more O2.out (fun _ h => .inl h) R2.out (by repeat (with_reducible (first | exact Only.refl _ _ | refine Only.put17 ?_ _ _ | refine Only.drewN ?_ _))) ?_ rfl rfl rfl
      exact (R2.out.row.drewN _).put 6 (.int .i64 9)
    · have e9 : decide ((nl : Int) < kl) = false := by simpa using hkn
      have HW : Hid (wor17 (T1) = { T1 with st := 14 }) := Lib.hid (by unfold wor17; rw [if_neg (by rw [HKL.out.1, HKL.out.2]; exact hkn)])
      clear hkn
      go_step3
      try simp only [Exit.inBlock]
      try simp only [Exit.then]
      refine fwd_goto fol17J1 ?_
      conv => arg 2; whnf
      go_wp2
      go_quiet (fail)
      go_wp2
      go_step3
      go_wp2
      go_ret2
      rw [HE.out, HW.out]
      refine KP17.more O2.out (fun _ h => .inl h) R2.out (by repeat (with_reducible (first | exact Only.refl _ _ | refine Only.put17 ?_ _ _ | refine Only.drewN ?_ _))) ?_ rfl rfl rfl
      exact (R2.out.row.drewN _).put 6 (.int .i64 14)
set_option maxRecDepth 100000 in
set_option maxHeartbeats 2000000 in
theorem fol17_s9 (x : Int) (w : World) (r : KAt w k T s vl vg) (hst : T.st = 9) (hl : T.load.length ≤ 100) :
    Calls Tryz.prog 43 #[.pointer (some ⟨k, 0, none⟩), .int .i64 x] w (KP17 k s (aft17 T x).1 vl vg (ansV17 (aft17 T x).2) w) := by
  have R := Lib.hid r
  obtain ⟨i0, hi0, hz0, hz1, hz2⟩ := info_parts int_info
  have c6 := r.row.cell 6
  have c15 := r.row.cell 15
  simp only [tkC, List.getElem?_cons_zero, List.getElem?_cons_succ] at c6 c15
  rw [hst] at c6
  obtain ⟨A, c, rfl⟩ := own_open14 r.load
  obtain ⟨n, hn⟩ : ∃ n, T.load.length = n := ⟨_, rfl⟩
  have OL := r.load
  rw [hn] at c15 hl OL R ⊢
  have HF := Lib.hid OL
  have HN := Lib.hid hn
  obtain ⟨T1, hT⟩ : ∃ T1 : Tk, T1 = { T with load := T.load ++ [x] } := ⟨_, rfl⟩
  have HE : Hid (aft17 T x = (wor17 T1, none)) := Lib.hid (by unfold aft17; simp [hst, hT])
  have HT := Lib.hid hT
  have hgl := r.row.lt
  clear r hst hn hT OL
  go_enter Tryz.func43, Tryz.ntmps43
  go_wp2
  refine wp_scope_fwd 3 fol17J (fun l => by kernel_rfl) ?_
  go_wp2_with (at_builtin; go_must ((refine app14_walk rfl (.tmp 129) (.tmp 131) 35 rfl 0 3 i0 _ 1 8 Tryz.underlying35 hi0 hz0 hz1 hz2 rfl (by omega) _ _ _ rfl (HF.out.alloc _) ⟨_, 0, none⟩ 1 1 [.int .i64 x] rfl rfl (cells_new14 _ _ _ _ (by simp)) (by intro u hu; simp at hu; subst hu; rfl) (by unfold maxLen; omega) (by omega) (by simp) ?_); intro v3 w3 hown3 hg3 hat3; obtain ⟨g', cap', rfl, hbg, hlt'⟩ := hown3.form (by omega); have HR3 := Lib.hid ((R.out.row.below (below_al w (.cells #[.int .i64 x] 3))).of_grown hg3 (fun e => R.out.lk e.symm)); have hd15 := HR3.out.cell 15; have hg15 := HR3.out.soft 15; simp only [tkC, List.getElem?_cons_zero, List.getElem?_cons_succ] at hd15; have OG3 := Lib.hid ((Only.of_below (below_al w (.cells #[.int .i64 x] 3)) (fun y => (Value.slice A n c).ownBlock = some y)).trans (Only.of_own hg3)); have HA3 : Hid (Value.ownBlock (.slice (some ⟨g', 0, none⟩) (n + 1) cap') = (Value.slice A n c).ownBlock ∨ ∃ y, Value.ownBlock (.slice (some ⟨g', 0, none⟩) (n + 1) cap') = some y ∧ w.heap.size ≤ y) := Lib.hid (hat3.imp id (fun e => ⟨_, e, by simp⟩)); have HO3 := Lib.hid hown3; clear hown3 hg3 hat3))
  have S3 := Lib.hid (R.out.setLoad (xs := T.load ++ [x]) OG3.out (by rw [List.length_append, HN.out, ints_append]; exact HO3.out) HA3.out)
  rw [← HT.out] at S3
  obtain ⟨w2, hw2⟩ : ∃ w2, w2 = w3.setCell ⟨k, 15, none⟩ (.slice (some ⟨g', 0, none⟩) (n + 1) cap') := ⟨_, rfl⟩
  rw [← hw2] at S3 ⊢
  have R2 := Lib.hid S3.out.1
  clear hw2 hd15 hg15
  obtain ⟨Al, cl, hvl⟩ := own_open14 R2.out.load
  obtain ⟨nl, hnl⟩ : ∃ n, (T1).load.length = n := ⟨_, rfl⟩
  obtain ⟨kl, hkl⟩ : ∃ n, (T1).cnt = n := ⟨_, rfl⟩
  rw [hnl] at hvl
  have yc6 := R2.out.row.cell 6
  have yc14 := R2.out.row.cell 14
  have yc15 := R2.out.row.cell 15
  have yf6 := R2.out.row.soft 6
  simp only [tkC, List.getElem?_cons_zero, List.getElem?_cons_succ] at yc6 yc14 yc15
  rw [hvl] at yc15
  rw [hkl] at yc14
  have HKL : Hid ((T1).load.length = nl ∧ (T1).cnt = kl) := Lib.hid ⟨hnl, hkl⟩
  clear hvl hnl hkl
  by_cases hkn : (nl : Int) < kl
  · have e9 : decide ((nl : Int) < kl) = true := by simpa using hkn
    have HW : Hid (wor17 (T1) = { T1 with st := 9 }) := Lib.hid (by unfold wor17; rw [if_pos (by rw [HKL.out.1, HKL.out.2]; exact hkn)])
    clear hkn
    go_step3
    try simp only [Exit.inBlock]
    try simp only [Exit.then]
    refine fwd_goto fol17J1 ?_
    conv => arg 2; whnf
    go_wp2
    go_quiet (fail)
    go_wp2
    go_ret2
    rw [HE.out, HW.out]
    refine KP17.more S3.out.2.1 S3.out.2.2 R2.out (by repeat (with_reducible (first | exact Only.refl _ _ | refine Only.put17 ?_ _ _ | refine Only.drewN ?_ _))) ?_ rfl rfl rfl
    exact (R2.out.row.drewN _).put 6 (.int .i64 9)
  · have e9 : decide ((nl : Int) < kl) = false := by simpa using hkn
    have HW : Hid (wor17 (T1) = { T1 with st := 14 }) := Lib.hid (by unfold wor17; rw [if_neg (by rw [HKL.out.1, HKL.out.2]; exact hkn)])
    clear hkn
    go_step3
    try simp only [Exit.inBlock]
    try simp only [Exit.then]
    refine fwd_goto fol17J1 ?_
    conv => arg 2; whnf
    go_wp2
    go_quiet (fail)
    go_wp2
    go_step3
    go_wp2
    go_ret2
    rw [HE.out, HW.out]
    refine KP17.more S3.out.2.1 S3.out.2.2 R2.out (by repeat (with_reducible (first | exact Only.refl _ _ | refine Only.put17 ?_ _ _ | refine Only.drewN ?_ _))) ?_ rfl rfl rfl
    exact (R2.out.row.drewN _).put 6 (.int .i64 14)
/-- What follow asks of the numbers. -/
structure Fit17 (T : Tk) : Prop where
  st : 1 ≤ T.st ∧ T.st ≤ 14
  R : T.R ≤ 64
  tab : (hs17 T).length ≤ 64
  load : T.load.length ≤ 100
theorem fol17_any (x : Int) (w : World) (r : KAt w k T s vl vg) (h : Fit17 T) :
    Calls Tryz.prog 43 #[.pointer (some ⟨k, 0, none⟩), .int .i64 x] w (KP17 k s (aft17 T x).1 vl vg (ansV17 (aft17 T x).2) w) := by
  obtain ⟨h1, h14⟩ := h.st
  have : T.st = 1 ∨ T.st = 2 ∨ T.st = 3 ∨ T.st = 4 ∨ T.st = 5 ∨ T.st = 6 ∨ T.st = 7 ∨ T.st = 8 ∨ T.st = 9 ∨ T.st = 10 ∨ T.st = 11 ∨ T.st = 12 ∨ T.st = 13 ∨ T.st = 14 := by omega
  rcases this with e | e | e | e | e | e | e | e | e | e | e | e | e | e
  · exact fol17_s1 x w r e
  · exact fol17_s2 x w r e
  · exact fol17_s3 x w r e
  · exact fol17_s4 x w r e
  · exact fol17_s5 x w r e
  · exact fol17_s6 x w r e h.R h.tab
  · exact fol17_s7 x w r e h.tab
  · exact fol17_s8 x w r e
  · exact fol17_s9 x w r e h.load
  · exact fol17_s10 x w r e
  · exact fol17_s11 x w r e
  · exact fol17_s12 x w r e
  · exact fol17_s13 x w r e
  · exact fol17_s14 x w r e
end
end

section
open Go.ChangeShapes Go.WideShapes Go.ChangeAt Go.RowKit
set_option maxRecDepth 100000 in
set_option maxHeartbeats 1000000 in
theorem caught17 {tb g : Nat} (w : World) (h0 : w.cell? ⟨tb, 0, none⟩ = some (.pointer (some ⟨g, 0, none⟩))) (h7 : w.cell? ⟨g, 7, none⟩ = some (.bool true)) (hf : w.frozen? ⟨g, 7, none⟩ = false) :
    CallsD Tryz.prog 77 #[.pointer (some ⟨tb, 0, none⟩)] .returning w fun e u' w' => e = .returned (.tuple #[]) ∧ u' = .returning ∧ w' = w.setCell ⟨g, 7, none⟩ (.bool false) := by
  refine callsD_of_wpS Tryz.func77 rfl fun c₀ cs hu => ?_
  simp only [Tryz.ntmps77, List.size_toArray, List.length_cons, List.length_nil, Nat.reduceAdd, Nat.reduceSub, Array.replicate_succ, Array.replicate_zero, List.push_toArray, List.append_toArray, List.nil_append, List.cons_append]
  apply wpS_seq
  apply wpS_of_wp
  go_wp2
  simp only [Exit.thenS]
  apply wpS_region
  simp [wpOpsS, go_sem, recoverD, hu]
  cases c₀
  simp_all [bodyPostS, results, Tryz.results77]
/-- The taker's address of the word that it accesses next, its kind and what is stored. -/
def tch17 (G : Tk) : Tch :=
  if G.st = 1 ∨ G.st = 14 then (4, G.peer, 0)
  else if G.st = 2 then (2, ad17 G 4 0 0, 0)
  else if G.st = 3 then (2, ad17 G 2 0 0, ep17 G)
  else if G.st = 5 then (1, ad17 G 1 0 0, 0)
  else if G.st = 6 then (1, ad17 G 3 0 0, 0)
  else if G.st = 7 then (1, ad17 G 5 (G.head % (G.R : Int)) 0, 0)
  else if G.st = 8 then (1, ad17 G 7 G.slot 0, 0)
  else if G.st = 9 then (1, ad17 G 8 G.slot (G.load.length : Int), 0)
  else if G.st = 10 then (2, ad17 G 6 (G.used % (G.R : Int)) 0, G.slot)
  else if G.st = 12 then (2, ad17 G 4 0 0, addW G.used 1)
  else (3, 0, 0)
/-- The taker while its port makes an access. -/
def in17 (G : Tk) : Tk := { G with ins := true }
/-- What access asks of the numbers. -/
structure Acc17 (G : Tk) : Prop where
  ins : G.ins = false
  B : 0 ≤ G.B ∧ G.B ≤ 65535
  R : 1 ≤ G.R ∧ G.R ≤ 64
  head : 0 ≤ G.head ∧ G.head ≤ 65535
  used : 0 ≤ G.used ∧ G.used ≤ 65535
  len : G.load.length ≤ 8
section
variable {g : Nat} {G : Tk} {s : Nat} {vl vg : Value}
/-- The variable of the receiver, and the mark. -/
theorem enter17 (w : World) (r : KAt w g G s vl vg) :
    Row ((w.setCell ⟨g, 7, none⟩ (.bool true)).alloc (.cells #[.pointer (some ⟨g, 0, none⟩)] 29)) w.heap.size 29 [.pointer (some ⟨g, 0, none⟩)] ∧
    KAt ((w.setCell ⟨g, 7, none⟩ (.bool true)).alloc (.cells #[.pointer (some ⟨g, 0, none⟩)] 29)) g (in17 G) s vl vg ∧
    Only (· = g) w ((w.setCell ⟨g, 7, none⟩ (.bool true)).alloc (.cells #[.pointer (some ⟨g, 0, none⟩)] 29)) := by
  have o := only_put17 w g 7 (.bool true)
  have r1 : KAt (w.setCell ⟨g, 7, none⟩ (.bool true)) g (in17 G) s vl vg := r.turn o (r.row.put 7 (.bool true)) rfl rfl rfl
  have b := below_al (w.setCell ⟨g, 7, none⟩ (.bool true)) (.cells #[.pointer (some ⟨g, 0, none⟩)] 29)
  have rn := Row.new (w.setCell ⟨g, 7, none⟩ (.bool true)) 29 #[.pointer (some ⟨g, 0, none⟩)]
  rw [show (w.setCell ⟨g, 7, none⟩ (.bool true)).heap.size = w.heap.size from by simp [World.setCell]] at rn
  exact ⟨rn, r1.below b, o.then_below b⟩
/-- What an access leaves, by a Trace that forwards to a Plain. -/
def AccT17 (g : Nat) (G : Tk) (s : Nat) (vl vg : Value) (t p a b : Nat) (k v : Value) (V E K : List Int) (T : List Tch) (n : Int) (w : World) (e : Ending) (w' : World) : Prop :=
  ∃ k' v', e = .returned (.int .i64 n) ∧ KAt w' g G s vl vg ∧ PtAt w' t p a b k' v' V E K T ∧ Only (fun x => own14 t p a k v x ∨ x = g) w w' ∧ (k'.ownBlock = k.ownBlock ∨ ∃ x, k'.ownBlock = some x ∧ w.heap.size ≤ x) ∧ (v'.ownBlock = v.ownBlock ∨ ∃ x, v'.ownBlock = some x ∧ w.heap.size ≤ x)
/-- The mark is taken away again. -/
theorem leave17 {w w1 w2 : World} {S : Nat → Prop} (hi : G.ins = false) (o1 : Only (· = g) w w1) (r2 : KAt w2 g (in17 G) s vl vg) (o2 : Only S w1 w2) :
    KAt (w2.setCell ⟨g, 7, none⟩ (.bool false)) g G s vl vg ∧ Only (fun x => S x ∨ x = g) w (w2.setCell ⟨g, 7, none⟩ (.bool false)) := by
  have o3 := only_put17 w2 g 7 (.bool false)
  refine ⟨r2.turn o3 ?_ rfl rfl rfl, ((o1.mono (fun _ _ h => .inr h)).trans (o2.mono (fun _ _ h => .inl h))).trans (o3.mono (fun _ _ h => .inr h))⟩
  have := r2.row.put 7 (.bool false)
  rw [show tkC G s vl vg = (tkC (in17 G) s vl vg).set 7 (.bool false) from by simp [tkC, in17, hi]]
  exact this
theorem endT17 {t p a b : Nat} {k v k2 v2 : Value} {E V' K' : List Int} {T' : List Tch} {n : Int} {w w1 w2 : World} (hi : G.ins = false) (o1 : Only (· = g) w w1) (r2 : KAt w2 g (in17 G) s vl vg) (rp : PtAt w2 t p a b k2 v2 V' E K' T') (o2 : Only (own14 t p a k v) w1 w2)
    (hg : ∀ x, own14 t p a k v x ∨ x = b → x ≠ g) (hlt : g < w.heap.size) (hk : k2.ownBlock = k.ownBlock ∨ ∃ x, k2.ownBlock = some x ∧ w.heap.size ≤ x) (hv : v2.ownBlock = v.ownBlock ∨ ∃ x, v2.ownBlock = some x ∧ w.heap.size ≤ x) :
    AccT17 g G s vl vg t p a b k v V' E K' T' n w (.returned (.int .i64 n)) (w2.setCell ⟨g, 7, none⟩ (.bool false)) := by
  obtain ⟨r3, o3⟩ := leave17 hi o1 r2 o2
  refine ⟨k2, v2, rfl, r3, rp.only (only_put17 w2 g 7 _) (fun x hx e => ?_), o3, hk, hv⟩
  rcases hx with hx | hx
  · rcases hx with hx | hx | hx | hx | hx
    · exact hg x (.inl (.inl hx)) e
    · exact hg x (.inl (.inr (.inl hx))) e
    · exact hg x (.inl (.inr (.inr (.inl hx)))) e
    · rcases hk with h | ⟨y, h, hy⟩
      · exact hg x (.inl (.inr (.inr (.inr (.inl (by rw [← h]; exact hx)))))) e
      · rw [hx] at h; injection h with h; omega
    · rcases hv with h | ⟨y, h, hy⟩
      · exact hg x (.inl (.inr (.inr (.inr (.inr (by rw [← h]; exact hx)))))) e
      · rw [hx] at h; injection h with h; omega
  · exact hg x (.inr hx) e
/-! ### The table of the fields, by a set of changed blocks -/
theorem TabAt.only17 {S : Nat → Prop} {w w' : World} (h : TabAt w) (ho : Only S w w') (hn : ¬ S 0) : TabAt w' := by
  have hk : ∀ o, w'.cell? ⟨0, o, none⟩ = w.cell? ⟨0, o, none⟩ := fun o => World.cell?_of_block (w := w) (ho.block _ h.lt hn)
  intro k hk9
  rw [hk, hk, hk, hk]
  exact h k hk9
theorem tab_ne17 {w : World} (h : TabAt w) (r : KAt w g G s vl vg) : 0 ≠ g := by
  intro e
  have h3 : w.cell? ⟨0, 3, none⟩ = some (.bool false) := (h 0 (by omega)).2.2.2
  have h4 : w.cell? ⟨g, 3, none⟩ = some (.int .i64 G.own) := r.row.cell 3
  rw [← e, h3] at h4
  cases h4
end
end

section
open Go.ChangeShapes Go.WideShapes Go.ChangeAt Go.RowKit
/-- What always holds of a taker's numbers. -/
structure Ok17 (T : Tk) : Prop where
  ins : T.ins = false
  B : 0 ≤ T.B ∧ T.B ≤ 65535
  R : okRing (T.R : Int)
  st : T.st ≤ 14
  head : 0 ≤ T.head ∧ T.head ≤ 65535
  used : 0 ≤ T.used ∧ T.used ≤ 65535
  tab : T.tab.length = T.R
  slot : 0 ≤ T.slot ∧ T.slot < (T.R : Int)
  load : T.load.length ≤ 8
  word : T.st = 9 → (T.load.length : Int) < T.cnt ∧ T.cnt ≤ 8
  gl : T.gl.length ≤ 8
theorem Ok17.R64 {T : Tk} (h : Ok17 T) : 2 ≤ T.R ∧ T.R ≤ 64 := by have := h.R.bd; omega
theorem Ok17.hs {T : Tk} (h : Ok17 T) : (hs17 T).length ≤ T.R := by rw [← h.tab]; exact onL15_len _ _
theorem Ok17.acc {T : Tk} (h : Ok17 T) : Acc17 T :=
  ⟨h.ins, h.B, by have := h.R64; omega, h.head, h.used, h.load⟩
theorem Ok17.fit {T : Tk} (h : Ok17 T) (h0 : T.st ≠ 0) : Fit17 T := by
  have h1 := h.hs
  have h2 := h.R64
  exact ⟨⟨by omega, h.st⟩, h2.2, by omega, by have := h.load; omega⟩
theorem ok17_new {B self peer own : Int} {R : Nat} (h : ok17 B (R : Int) self peer own) : Ok17 (new17 B R peer own) :=
  ⟨rfl, ⟨h.2.1.1, by have := h.2.1.2; show B ≤ 65535; omega⟩, h.1, by show 0 ≤ 14; omega, by show (0 : Int) ≤ 0 ∧ (0 : Int) ≤ 65535; omega, by show (0 : Int) ≤ 0 ∧ (0 : Int) ≤ 65535; omega, by show (new15 R).length = R; simp [new15], by show (0 : Int) ≤ 0 ∧ (0 : Int) < (R : Int); have := h.1.bd; omega, by show 0 ≤ 8; omega, fun h => absurd h (by show ¬ (0 = 9); omega), by show 0 ≤ 8; omega⟩
theorem offL15_len (l : List (Int × Bool)) (k : Nat) : (offL15 l k).length = l.length := by unfold offL15; split <;> simp
theorem dropL15_len (l : List (Int × Bool)) (h : Int) : (dropL15 l h).length = l.length := by unfold dropL15; split; exact offL15_len _ _; rfl
theorem giveL15_len (l : List (Int × Bool)) (i : Int) : (giveL15 l i).length = l.length := by unfold giveL15; split <;> simp
theorem ok17_begin {T : Tk} (h : Ok17 T) (rel : Bool) (s : Int) (hs : 0 ≤ s ∧ s < (T.R : Int)) : Ok17 (begin17 T rel s) :=
  ⟨h.ins, h.B, h.R, by show 1 ≤ 14; omega, h.head, h.used, h.tab, hs, by show 0 ≤ 8; omega, fun h => absurd h (by show ¬ (1 = 9); omega), by show 0 ≤ 8; omega⟩
theorem Ok17.pos {T : Tk} (h : Ok17 T) : 0 ≤ (0 : Int) ∧ (0 : Int) < (T.R : Int) := by have := h.R64; omega
theorem Ok17.withTab {T : Tk} (h : Ok17 T) {l : List (Int × Bool)} (hl : l.length = T.tab.length) : Ok17 { T with tab := l } :=
  ⟨h.ins, h.B, h.R, h.st, h.head, h.used, hl.trans h.tab, h.slot, h.load, h.word, h.gl⟩
theorem ok17_rec {T : Tk} (h : Ok17 T) : Ok17 (recT17 T) := by
  unfold recT17
  split
  · exact ok17_begin h _ _ h.pos
  · exact h
theorem slotV15_bd {l : List (Int × Bool)} {h : Int} (hl : 0 < l.length) : 0 ≤ slotV15 l h ∧ slotV15 l h < (l.length : Int) := by
  unfold slotV15
  cases hs : slotO15 l h with
  | none => simp; omega
  | some k =>
    obtain ⟨e, hk, _⟩ := slotO15_is hs
    have := lt_of_at hk
    simp
    omega
theorem ok17_rel {T : Tk} (h : Ok17 T) (x : Int) : Ok17 (relT17 T x) := by
  unfold relT17
  split
  · refine ok17_begin (h.withTab (dropL15_len _ _)) _ _ ?_
    have := slotV15_bd (l := T.tab) (h := x) (by rw [h.tab]; have := h.R64; omega)
    rw [h.tab] at this
    exact this
  · exact h
theorem ok17_idle {T : Tk} (h : Ok17 T) : Ok17 (idle17 T) :=
  ⟨h.ins, h.B, h.R, by show 0 ≤ 14; omega, h.head, h.used, h.tab, h.pos, by show 0 ≤ 8; omega, fun h => absurd h (by show ¬ (0 = 9); omega), h.gl⟩
/-- A taker in another state. -/
theorem ok17_st {T : Tk} (h : Ok17 T) (n : Nat) (hn : n ≤ 14) (h9 : n ≠ 9) : Ok17 { T with st := n } :=
  ⟨h.ins, h.B, h.R, hn, h.head, h.used, h.tab, h.slot, h.load, fun h => absurd h h9, h.gl⟩
theorem ok17_res {T : Tk} (h : Ok17 T) (n : Int) : Ok17 { T with res := n } :=
  ⟨h.ins, h.B, h.R, h.st, h.head, h.used, h.tab, h.slot, h.load, h.word, h.gl⟩
theorem ok17_fin {T : Tk} (h : Ok17 T) (n : Int) : Ok17 (fin17 T n) := ok17_res (ok17_st h 14 (by omega) (by omega)) n
theorem ok17_wor {T : Tk} (h : Ok17 { T with st := 8 }) (hc : T.cnt ≤ 8) : Ok17 (wor17 T) := by
  unfold wor17
  split
  · exact ⟨h.ins, h.B, h.R, by show 9 ≤ 14; omega, h.head, h.used, h.tab, h.slot, h.load, fun _ => ⟨by assumption, hc⟩, h.gl⟩
  · exact ok17_st h 14 (by omega) (by omega)
/-- What follows from an access keeps all that. -/
theorem ok17_aft {T : Tk} (h : Ok17 T) (x : Int) : Ok17 (aft17 T x).1 := by
  have h14 := h.st
  unfold aft17
  split
  · have hs : askS17 T x ≤ 14 ∧ askS17 T x ≠ 9 := by unfold askS17; split; omega; split; split <;> omega; omega
    have h1 : Ok17 (askT17 T x) := by
      unfold askT17
      split
      · exact ⟨h.ins, h.B, h.R, h.st, h.head, h.used, h.tab, h.slot, h.load, h.word, h.gl⟩
      · exact h
    exact ok17_st h1 _ hs.1 hs.2
  · split
    · refine ok17_idle ⟨h.ins, h.B, h.R, h.st, by show (0 : Int) ≤ 0 ∧ (0 : Int) ≤ 65535; omega, by show (0 : Int) ≤ 0 ∧ (0 : Int) ≤ 65535; omega, ?_, h.slot, h.load, h.word, h.gl⟩
      show (clearL15 T.tab).length = T.R
      rw [clearL15_len]
      exact h.tab
    · split
      · split
        · have := ok17_st h 6 (by omega) (by omega)
          exact ⟨this.ins, this.B, this.R, this.st, this.head, this.used, this.tab, this.slot, this.load, this.word, this.gl⟩
        · exact ok17_idle h
      · split
        · split
          · exact ok17_st (ok17_res h 0) 7 (by omega) (by omega)
          · exact ok17_fin h _
        · split
          · split
            · rename_i hx
              have := ok17_st h 8 (by omega) (by omega)
              exact ⟨this.ins, this.B, this.R, this.st, this.head, this.used, this.tab, hx.1, this.load, this.word, this.gl⟩
            · exact ok17_fin h 10
          · split
            · split
              · exact ok17_fin h 10
              · have := ok17_st h 8 (by omega) (by omega)
                exact ok17_wor (T := { T with cnt := x }) ⟨this.ins, this.B, this.R, this.st, this.head, this.used, this.tab, this.slot, this.load, fun h => absurd h (by show ¬ (8 = 9); omega), this.gl⟩ (by show x ≤ 8; omega)
            · split
              · rename_i e9
                have hw := h.word e9
                have := ok17_st h 8 (by omega) (by omega)
                exact ok17_wor (T := { T with load := T.load ++ [x] }) ⟨this.ins, this.B, this.R, this.st, this.head, this.used, this.tab, this.slot, by show (T.load ++ [x]).length ≤ 8; simp; omega, fun h => absurd h (by show ¬ (8 = 9); omega), this.gl⟩ hw.2
              · split
                · have hj : Ok17 (judT17 T x) := by
                    unfold judT17
                    split
                    · split
                      · exact ⟨h.ins, h.B, h.R, h.st, h.head, addW_bd T.used 1, h.tab, h.slot, h.load, h.word, h.gl⟩
                      · exact ⟨h.ins, h.B, h.R, h.st, addW_bd T.head 1, h.used, (giveL15_len _ _).trans h.tab, h.slot, h.load, h.word, h.load⟩
                    · exact h
                  exact ok17_idle hj
                · exact ok17_st h _ (by omega) (by omega)
/-- The parts that never change. -/
def Same17 (T T' : Tk) : Prop := T'.R = T.R ∧ T'.B = T.B ∧ T'.peer = T.peer ∧ T'.own = T.own
theorem Same17.trans {T T1 T2 : Tk} (h : Same17 T T1) (k : Same17 T1 T2) : Same17 T T2 := ⟨k.1.trans h.1, k.2.1.trans h.2.1, k.2.2.1.trans h.2.2.1, k.2.2.2.trans h.2.2.2⟩
theorem same17_rec (T : Tk) : Same17 T (recT17 T) := by unfold recT17; split <;> exact ⟨rfl, rfl, rfl, rfl⟩
theorem same17_rel (T : Tk) (x : Int) : Same17 T (relT17 T x) := by unfold relT17; split <;> exact ⟨rfl, rfl, rfl, rfl⟩
theorem same17_wor (T : Tk) : Same17 T (wor17 T) := by unfold wor17; split <;> exact ⟨rfl, rfl, rfl, rfl⟩
theorem same17_jud (T : Tk) (x : Int) : Same17 T (judT17 T x) := by
  unfold judT17
  split
  · split <;> exact ⟨rfl, rfl, rfl, rfl⟩
  · exact ⟨rfl, rfl, rfl, rfl⟩
theorem same17_aft (T : Tk) (x : Int) : Same17 T (aft17 T x).1 := by
  unfold aft17
  split
  · unfold askT17; split <;> exact ⟨rfl, rfl, rfl, rfl⟩
  · split
    · exact ⟨rfl, rfl, rfl, rfl⟩
    · split
      · split <;> exact ⟨rfl, rfl, rfl, rfl⟩
      · split
        · split <;> exact ⟨rfl, rfl, rfl, rfl⟩
        · split
          · split <;> exact ⟨rfl, rfl, rfl, rfl⟩
          · split
            · split
              · exact ⟨rfl, rfl, rfl, rfl⟩
              · exact Same17.trans (show Same17 T { T with cnt := x } from ⟨rfl, rfl, rfl, rfl⟩) (same17_wor _)
            · split
              · exact Same17.trans (show Same17 T { T with load := T.load ++ [x] } from ⟨rfl, rfl, rfl, rfl⟩) (same17_wor _)
              · split
                · exact Same17.trans (same17_jud T x) ⟨rfl, rfl, rfl, rfl⟩
                · exact ⟨rfl, rfl, rfl, rfl⟩
end

section
open Go.ChangeShapes Go.WideShapes Go.ChangeAt Go.RowKit
section
variable {g : Nat} {G : Tk} {s : Nat} {vl vg : Value} {t p a b : Nat} {k v : Value} {V E K : List Int} {T : List Tch}
set_option maxRecDepth 100000 in
set_option maxHeartbeats 4000000 in
theorem accT17_s4 (w : World) (r : KAt w g G s vl vg) (h : Acc17 G) (rp : PtAt w t p a b k v V E K T) (hT : TabAt w) (hdis : ∀ x, own17 g s vl vg x → ¬ (own14 t p a k v x ∨ x = b)) (hl : T.length ≤ 65536) (hst : G.st = 4) :
    Calls Tryz.prog 44 #[.pointer (some ⟨g, 0, none⟩), tface14 t] w (AccT17 g G s vl vg t p a b k v V E K (T ++ [(3, 0, 0)]) 0 w) := by
  have hmf : ∀ (fn : Fn) (first cap : Array Value) (w : World), (Instr.makeFunc fn first cap).run Tryz.prog w = .ok (.func fn first cap) w := fun _ _ _ _ => rfl
  have f7 := r.row.soft 7
  have c7 := r.row.cell 7
  have c6 := r.row.cell 6
  simp only [tkC, List.getElem?_cons_zero, List.getElem?_cons_succ] at c6 c7
  rw [h.ins] at c7
  rw [hst] at c6
  have hgl := r.row.lt
  have HLT := Lib.hid rp.lt
  have HI := Lib.hid h.ins
  obtain ⟨e0, e1, e2⟩ := enter17 w r
  obtain ⟨w1, hw1⟩ : ∃ w1, w1 = (w.setCell ⟨g, 7, none⟩ (.bool true)).alloc (.cells #[.pointer (some ⟨g, 0, none⟩)] 29) := ⟨_, rfl⟩
  rw [← hw1] at e0 e1 e2
  have hsz := e2.size
  have hgd : ∀ x, own14 t p a k v x ∨ x = b → x ≠ g := fun x hx e => hdis g (.inl rfl) (by rw [← e]; exact hx)
  have rp1 := rp.only e2 (fun x hx e => hgd x hx e)
  have hT1 : TabAt w1 := hT.only17 e2 (fun e => tab_ne17 hT r e)
  have z0 : w1.cell? ⟨w.heap.size, 0, none⟩ = some (.pointer (some ⟨g, 0, none⟩)) := e0.cell 0
  have E0 := Lib.hid e0
  have E1 := Lib.hid e1
  have E2 := Lib.hid e2
  have HGD := Lib.hid hgd
  have HD := Lib.hid (fun x (hx : own17 g s vl vg x) (hy : own14 t p a k v x) => hdis x hx (.inl hy))
  clear r h rp hT hdis e0 e1 e2 hgd hst
  unfold tface14
  go_enter_defers Tryz.func44, Tryz.ntmps44
  go_wp2_with fail
  rw [← hw1]
  clear hw1
  refine (tfence14_any w1 rp1 hl).mono ?_
  rintro e w2 ⟨k2, v2, rfl, r2, o2, hk2, hv2⟩
  go_wp2_with fail
  have G2 := Lib.hid (E1.out.only o2 (fun x hx hy => HD.out x hx hy))
  have T2 := Lib.hid (E0.out.only o2 (fun e => by have := HLT.out _ (.inl e); omega))
  have y0 : w2.cell? ⟨w.heap.size, 0, none⟩ = some (.pointer (some ⟨g, 0, none⟩)) := T2.out.cell 0
  have y7 := G2.out.row.cell 7
  have g7 := G2.out.row.soft 7
  simp only [tkC, in17, List.getElem?_cons_zero, List.getElem?_cons_succ] at y7
  refine leaves_cons (f := 77) (args := #[.pointer (some ⟨w.heap.size, 0, none⟩)]) (by simp) (by simp [go_sem]) ?_
  refine (caught17 w2 y0 y7 g7).mono ?_
  rintro e u' w3 ⟨rfl, rfl, rfl⟩
  simp [Leaves, settle, results, Tryz.results44, go_sem]
  exact endT17 HI.out E2.out G2.out r2 o2 HGD.out hgl (hk2.imp id (fun ⟨x, h1, h2⟩ => ⟨x, h1, by omega⟩)) (hv2.imp id (fun ⟨x, h1, h2⟩ => ⟨x, h1, by omega⟩))
set_option maxRecDepth 100000 in
set_option maxHeartbeats 4000000 in
theorem accT17_s11 (w : World) (r : KAt w g G s vl vg) (h : Acc17 G) (rp : PtAt w t p a b k v V E K T) (hT : TabAt w) (hdis : ∀ x, own17 g s vl vg x → ¬ (own14 t p a k v x ∨ x = b)) (hl : T.length ≤ 65536) (hst : G.st = 11) :
    Calls Tryz.prog 44 #[.pointer (some ⟨g, 0, none⟩), tface14 t] w (AccT17 g G s vl vg t p a b k v V E K (T ++ [(3, 0, 0)]) 0 w) := by
  have hmf : ∀ (fn : Fn) (first cap : Array Value) (w : World), (Instr.makeFunc fn first cap).run Tryz.prog w = .ok (.func fn first cap) w := fun _ _ _ _ => rfl
  have f7 := r.row.soft 7
  have c7 := r.row.cell 7
  have c6 := r.row.cell 6
  simp only [tkC, List.getElem?_cons_zero, List.getElem?_cons_succ] at c6 c7
  rw [h.ins] at c7
  rw [hst] at c6
  have hgl := r.row.lt
  have HLT := Lib.hid rp.lt
  have HI := Lib.hid h.ins
  obtain ⟨e0, e1, e2⟩ := enter17 w r
  obtain ⟨w1, hw1⟩ : ∃ w1, w1 = (w.setCell ⟨g, 7, none⟩ (.bool true)).alloc (.cells #[.pointer (some ⟨g, 0, none⟩)] 29) := ⟨_, rfl⟩
  rw [← hw1] at e0 e1 e2
  have hsz := e2.size
  have hgd : ∀ x, own14 t p a k v x ∨ x = b → x ≠ g := fun x hx e => hdis g (.inl rfl) (by rw [← e]; exact hx)
  have rp1 := rp.only e2 (fun x hx e => hgd x hx e)
  have hT1 : TabAt w1 := hT.only17 e2 (fun e => tab_ne17 hT r e)
  have z0 : w1.cell? ⟨w.heap.size, 0, none⟩ = some (.pointer (some ⟨g, 0, none⟩)) := e0.cell 0
  have E0 := Lib.hid e0
  have E1 := Lib.hid e1
  have E2 := Lib.hid e2
  have HGD := Lib.hid hgd
  have HD := Lib.hid (fun x (hx : own17 g s vl vg x) (hy : own14 t p a k v x) => hdis x hx (.inl hy))
  clear r h rp hT hdis e0 e1 e2 hgd hst
  unfold tface14
  go_enter_defers Tryz.func44, Tryz.ntmps44
  go_wp2_with fail
  rw [← hw1]
  clear hw1
  refine (tfence14_any w1 rp1 hl).mono ?_
  rintro e w2 ⟨k2, v2, rfl, r2, o2, hk2, hv2⟩
  go_wp2_with fail
  have G2 := Lib.hid (E1.out.only o2 (fun x hx hy => HD.out x hx hy))
  have T2 := Lib.hid (E0.out.only o2 (fun e => by have := HLT.out _ (.inl e); omega))
  have y0 : w2.cell? ⟨w.heap.size, 0, none⟩ = some (.pointer (some ⟨g, 0, none⟩)) := T2.out.cell 0
  have y7 := G2.out.row.cell 7
  have g7 := G2.out.row.soft 7
  simp only [tkC, in17, List.getElem?_cons_zero, List.getElem?_cons_succ] at y7
  refine leaves_cons (f := 77) (args := #[.pointer (some ⟨w.heap.size, 0, none⟩)]) (by simp) (by simp [go_sem]) ?_
  refine (caught17 w2 y0 y7 g7).mono ?_
  rintro e u' w3 ⟨rfl, rfl, rfl⟩
  simp [Leaves, settle, results, Tryz.results44, go_sem]
  exact endT17 HI.out E2.out G2.out r2 o2 HGD.out hgl (hk2.imp id (fun ⟨x, h1, h2⟩ => ⟨x, h1, by omega⟩)) (hv2.imp id (fun ⟨x, h1, h2⟩ => ⟨x, h1, by omega⟩))
set_option maxRecDepth 100000 in
set_option maxHeartbeats 4000000 in
theorem accT17_s13 (w : World) (r : KAt w g G s vl vg) (h : Acc17 G) (rp : PtAt w t p a b k v V E K T) (hT : TabAt w) (hdis : ∀ x, own17 g s vl vg x → ¬ (own14 t p a k v x ∨ x = b)) (hl : T.length ≤ 65536) (hst : G.st = 13) :
    Calls Tryz.prog 44 #[.pointer (some ⟨g, 0, none⟩), tface14 t] w (AccT17 g G s vl vg t p a b k v V E K (T ++ [(3, 0, 0)]) 0 w) := by
  have hmf : ∀ (fn : Fn) (first cap : Array Value) (w : World), (Instr.makeFunc fn first cap).run Tryz.prog w = .ok (.func fn first cap) w := fun _ _ _ _ => rfl
  have f7 := r.row.soft 7
  have c7 := r.row.cell 7
  have c6 := r.row.cell 6
  simp only [tkC, List.getElem?_cons_zero, List.getElem?_cons_succ] at c6 c7
  rw [h.ins] at c7
  rw [hst] at c6
  have hgl := r.row.lt
  have HLT := Lib.hid rp.lt
  have HI := Lib.hid h.ins
  obtain ⟨e0, e1, e2⟩ := enter17 w r
  obtain ⟨w1, hw1⟩ : ∃ w1, w1 = (w.setCell ⟨g, 7, none⟩ (.bool true)).alloc (.cells #[.pointer (some ⟨g, 0, none⟩)] 29) := ⟨_, rfl⟩
  rw [← hw1] at e0 e1 e2
  have hsz := e2.size
  have hgd : ∀ x, own14 t p a k v x ∨ x = b → x ≠ g := fun x hx e => hdis g (.inl rfl) (by rw [← e]; exact hx)
  have rp1 := rp.only e2 (fun x hx e => hgd x hx e)
  have hT1 : TabAt w1 := hT.only17 e2 (fun e => tab_ne17 hT r e)
  have z0 : w1.cell? ⟨w.heap.size, 0, none⟩ = some (.pointer (some ⟨g, 0, none⟩)) := e0.cell 0
  have E0 := Lib.hid e0
  have E1 := Lib.hid e1
  have E2 := Lib.hid e2
  have HGD := Lib.hid hgd
  have HD := Lib.hid (fun x (hx : own17 g s vl vg x) (hy : own14 t p a k v x) => hdis x hx (.inl hy))
  clear r h rp hT hdis e0 e1 e2 hgd hst
  unfold tface14
  go_enter_defers Tryz.func44, Tryz.ntmps44
  go_wp2_with fail
  rw [← hw1]
  clear hw1
  refine (tfence14_any w1 rp1 hl).mono ?_
  rintro e w2 ⟨k2, v2, rfl, r2, o2, hk2, hv2⟩
  go_wp2_with fail
  have G2 := Lib.hid (E1.out.only o2 (fun x hx hy => HD.out x hx hy))
  have T2 := Lib.hid (E0.out.only o2 (fun e => by have := HLT.out _ (.inl e); omega))
  have y0 : w2.cell? ⟨w.heap.size, 0, none⟩ = some (.pointer (some ⟨g, 0, none⟩)) := T2.out.cell 0
  have y7 := G2.out.row.cell 7
  have g7 := G2.out.row.soft 7
  simp only [tkC, in17, List.getElem?_cons_zero, List.getElem?_cons_succ] at y7
  refine leaves_cons (f := 77) (args := #[.pointer (some ⟨w.heap.size, 0, none⟩)]) (by simp) (by simp [go_sem]) ?_
  refine (caught17 w2 y0 y7 g7).mono ?_
  rintro e u' w3 ⟨rfl, rfl, rfl⟩
  simp [Leaves, settle, results, Tryz.results44, go_sem]
  exact endT17 HI.out E2.out G2.out r2 o2 HGD.out hgl (hk2.imp id (fun ⟨x, h1, h2⟩ => ⟨x, h1, by omega⟩)) (hv2.imp id (fun ⟨x, h1, h2⟩ => ⟨x, h1, by omega⟩))
set_option maxRecDepth 100000 in
set_option maxHeartbeats 4000000 in
theorem accT17_s1 (w : World) (r : KAt w g G s vl vg) (h : Acc17 G) (rp : PtAt w t p a b k v V E K T) (hT : TabAt w) (hdis : ∀ x, own17 g s vl vg x → ¬ (own14 t p a k v x ∨ x = b)) (hl : T.length ≤ 65536) (hst : G.st = 1) :
    Calls Tryz.prog 44 #[.pointer (some ⟨g, 0, none⟩), tface14 t] w (AccT17 g G s vl vg t p a b k v V E K (T ++ [(4, G.peer, nth14 E G.peer)]) (nth14 E G.peer) w) := by
  have hmf : ∀ (fn : Fn) (first cap : Array Value) (w : World), (Instr.makeFunc fn first cap).run Tryz.prog w = .ok (.func fn first cap) w := fun _ _ _ _ => rfl
  have f7 := r.row.soft 7
  have c7 := r.row.cell 7
  have c6 := r.row.cell 6
  simp only [tkC, List.getElem?_cons_zero, List.getElem?_cons_succ] at c6 c7
  rw [h.ins] at c7
  rw [hst] at c6
  have hgl := r.row.lt
  have HLT := Lib.hid rp.lt
  have HI := Lib.hid h.ins
  obtain ⟨e0, e1, e2⟩ := enter17 w r
  obtain ⟨w1, hw1⟩ : ∃ w1, w1 = (w.setCell ⟨g, 7, none⟩ (.bool true)).alloc (.cells #[.pointer (some ⟨g, 0, none⟩)] 29) := ⟨_, rfl⟩
  rw [← hw1] at e0 e1 e2
  have hsz := e2.size
  have hgd : ∀ x, own14 t p a k v x ∨ x = b → x ≠ g := fun x hx e => hdis g (.inl rfl) (by rw [← e]; exact hx)
  have rp1 := rp.only e2 (fun x hx e => hgd x hx e)
  have hT1 : TabAt w1 := hT.only17 e2 (fun e => tab_ne17 hT r e)
  have z0 : w1.cell? ⟨w.heap.size, 0, none⟩ = some (.pointer (some ⟨g, 0, none⟩)) := e0.cell 0
  have c2 := e1.row.cell 2
  simp only [tkC, in17, List.getElem?_cons_zero, List.getElem?_cons_succ] at c2
  have E0 := Lib.hid e0
  have E1 := Lib.hid e1
  have E2 := Lib.hid e2
  have HGD := Lib.hid hgd
  have HD := Lib.hid (fun x (hx : own17 g s vl vg x) (hy : own14 t p a k v x) => hdis x hx (.inl hy))
  clear r h rp hT hdis e0 e1 e2 hgd hst
  have KP := Lib.hid (fun W (hb : Below w1.heap.size w1 W) => (tepoch14_any G.peer W (rp1.below hb) hl).mono (fun _ _ h => PtP.since hb h))
  have SB : Hid (∀ W, Row W w.heap.size 29 [.pointer (some ⟨g, 0, none⟩)] → KAt W g (in17 G) s vl vg → W.cell? ⟨w.heap.size, 0, none⟩ = some (.pointer (some ⟨g, 0, none⟩)) ∧ W.cell? ⟨g, 2, none⟩ = some (.int .i64 G.peer)) := Lib.hid (fun W q0 q1 => ?sb)
  case sb =>
    have d0 := q0.cell 0
    have d2 := q1.row.cell 2
    simp only [tkC, in17, List.getElem?_cons_zero, List.getElem?_cons_succ] at d2
    exact ⟨d0, d2⟩
  have SN : Hid (∀ W, Below w1.heap.size w1 W → W.cell? ⟨w.heap.size, 0, none⟩ = some (.pointer (some ⟨g, 0, none⟩)) ∧ W.cell? ⟨g, 2, none⟩ = some (.int .i64 G.peer)) := Lib.hid (fun W hb => SB.out W (E0.out.below hb) (E1.out.below hb))
  have SO : Hid (∀ W, Only (own14 t p a k v) w1 W → W.cell? ⟨w.heap.size, 0, none⟩ = some (.pointer (some ⟨g, 0, none⟩)) ∧ W.cell? ⟨g, 2, none⟩ = some (.int .i64 G.peer)) := Lib.hid (fun W ho => SB.out W (E0.out.only ho (fun e => by have := HLT.out _ (.inl e); omega)) (E1.out.only ho (fun x hx hy => HD.out x hx hy)))
  unfold tface14
  go_enter_defers Tryz.func44, Tryz.ntmps44
  go_wp2_with fail
  rw [← hw1]
  clear hw1
  have hS0 := SN.out w1.drew (Below.refl _ _).drew
  have hbd : Below w1.heap.size w1 w1.drew := (Below.refl _ _).drew
  generalize hQ : w.heap.size = Q at *
  go_region_held3 (fun W => W.cell? ⟨Q, 0, none⟩ = some (.pointer (some ⟨g, 0, none⟩)) ∧ W.cell? ⟨g, 2, none⟩ = some (.int .i64 G.peer))
    (first | exact hS0 | exact hS2 | go_keep)
    (first
      | (go_at_call 111; refine (KP.out _ (by first | assumption)).mono ?_; rintro e w2 ⟨k2, v2, rfl, r2, o2, hk2, hv2⟩; have hS2 := SO.out _ o2))
  subst hQ
  all_goals
    go_wp2_with fail
    have G2 := Lib.hid (E1.out.only o2 (fun x hx hy => HD.out x hx hy))
    have T2 := Lib.hid (E0.out.only o2 (fun e => by have := HLT.out _ (.inl e); omega))
    have y0 : w2.cell? ⟨w.heap.size, 0, none⟩ = some (.pointer (some ⟨g, 0, none⟩)) := T2.out.cell 0
    have y7 := G2.out.row.cell 7
    have g7 := G2.out.row.soft 7
    simp only [tkC, in17, List.getElem?_cons_zero, List.getElem?_cons_succ] at y7
    refine leaves_cons (f := 77) (args := #[.pointer (some ⟨w.heap.size, 0, none⟩)]) (by simp) (by simp [go_sem]) ?_
    refine (caught17 w2 y0 y7 g7).mono ?_
    rintro e u' w3 ⟨rfl, rfl, rfl⟩
    simp [Leaves, settle, results, Tryz.results44, go_sem]
    exact endT17 HI.out E2.out G2.out r2 o2 HGD.out hgl (hk2.imp id (fun ⟨x, h1, h2⟩ => ⟨x, h1, by omega⟩)) (hv2.imp id (fun ⟨x, h1, h2⟩ => ⟨x, h1, by omega⟩))
set_option maxRecDepth 100000 in
set_option maxHeartbeats 4000000 in
theorem accT17_s14 (w : World) (r : KAt w g G s vl vg) (h : Acc17 G) (rp : PtAt w t p a b k v V E K T) (hT : TabAt w) (hdis : ∀ x, own17 g s vl vg x → ¬ (own14 t p a k v x ∨ x = b)) (hl : T.length ≤ 65536) (hst : G.st = 14) :
    Calls Tryz.prog 44 #[.pointer (some ⟨g, 0, none⟩), tface14 t] w (AccT17 g G s vl vg t p a b k v V E K (T ++ [(4, G.peer, nth14 E G.peer)]) (nth14 E G.peer) w) := by
  have hmf : ∀ (fn : Fn) (first cap : Array Value) (w : World), (Instr.makeFunc fn first cap).run Tryz.prog w = .ok (.func fn first cap) w := fun _ _ _ _ => rfl
  have f7 := r.row.soft 7
  have c7 := r.row.cell 7
  have c6 := r.row.cell 6
  simp only [tkC, List.getElem?_cons_zero, List.getElem?_cons_succ] at c6 c7
  rw [h.ins] at c7
  rw [hst] at c6
  have hgl := r.row.lt
  have HLT := Lib.hid rp.lt
  have HI := Lib.hid h.ins
  obtain ⟨e0, e1, e2⟩ := enter17 w r
  obtain ⟨w1, hw1⟩ : ∃ w1, w1 = (w.setCell ⟨g, 7, none⟩ (.bool true)).alloc (.cells #[.pointer (some ⟨g, 0, none⟩)] 29) := ⟨_, rfl⟩
  rw [← hw1] at e0 e1 e2
  have hsz := e2.size
  have hgd : ∀ x, own14 t p a k v x ∨ x = b → x ≠ g := fun x hx e => hdis g (.inl rfl) (by rw [← e]; exact hx)
  have rp1 := rp.only e2 (fun x hx e => hgd x hx e)
  have hT1 : TabAt w1 := hT.only17 e2 (fun e => tab_ne17 hT r e)
  have z0 : w1.cell? ⟨w.heap.size, 0, none⟩ = some (.pointer (some ⟨g, 0, none⟩)) := e0.cell 0
  have c2 := e1.row.cell 2
  simp only [tkC, in17, List.getElem?_cons_zero, List.getElem?_cons_succ] at c2
  have E0 := Lib.hid e0
  have E1 := Lib.hid e1
  have E2 := Lib.hid e2
  have HGD := Lib.hid hgd
  have HD := Lib.hid (fun x (hx : own17 g s vl vg x) (hy : own14 t p a k v x) => hdis x hx (.inl hy))
  clear r h rp hT hdis e0 e1 e2 hgd hst
  have KP := Lib.hid (fun W (hb : Below w1.heap.size w1 W) => (tepoch14_any G.peer W (rp1.below hb) hl).mono (fun _ _ h => PtP.since hb h))
  have SB : Hid (∀ W, Row W w.heap.size 29 [.pointer (some ⟨g, 0, none⟩)] → KAt W g (in17 G) s vl vg → W.cell? ⟨w.heap.size, 0, none⟩ = some (.pointer (some ⟨g, 0, none⟩)) ∧ W.cell? ⟨g, 2, none⟩ = some (.int .i64 G.peer)) := Lib.hid (fun W q0 q1 => ?sb)
  case sb =>
    have d0 := q0.cell 0
    have d2 := q1.row.cell 2
    simp only [tkC, in17, List.getElem?_cons_zero, List.getElem?_cons_succ] at d2
    exact ⟨d0, d2⟩
  have SN : Hid (∀ W, Below w1.heap.size w1 W → W.cell? ⟨w.heap.size, 0, none⟩ = some (.pointer (some ⟨g, 0, none⟩)) ∧ W.cell? ⟨g, 2, none⟩ = some (.int .i64 G.peer)) := Lib.hid (fun W hb => SB.out W (E0.out.below hb) (E1.out.below hb))
  have SO : Hid (∀ W, Only (own14 t p a k v) w1 W → W.cell? ⟨w.heap.size, 0, none⟩ = some (.pointer (some ⟨g, 0, none⟩)) ∧ W.cell? ⟨g, 2, none⟩ = some (.int .i64 G.peer)) := Lib.hid (fun W ho => SB.out W (E0.out.only ho (fun e => by have := HLT.out _ (.inl e); omega)) (E1.out.only ho (fun x hx hy => HD.out x hx hy)))
  unfold tface14
  go_enter_defers Tryz.func44, Tryz.ntmps44
  go_wp2_with fail
  rw [← hw1]
  clear hw1
  have hS0 := SN.out w1.drew (Below.refl _ _).drew
  have hbd : Below w1.heap.size w1 w1.drew := (Below.refl _ _).drew
  generalize hQ : w.heap.size = Q at *
  go_region_held3 (fun W => W.cell? ⟨Q, 0, none⟩ = some (.pointer (some ⟨g, 0, none⟩)) ∧ W.cell? ⟨g, 2, none⟩ = some (.int .i64 G.peer))
    (first | exact hS0 | exact hS2 | go_keep)
    (first
      | (go_at_call 111; refine (KP.out _ (by first | assumption)).mono ?_; rintro e w2 ⟨k2, v2, rfl, r2, o2, hk2, hv2⟩; have hS2 := SO.out _ o2))
  subst hQ
  all_goals
    go_wp2_with fail
    have G2 := Lib.hid (E1.out.only o2 (fun x hx hy => HD.out x hx hy))
    have T2 := Lib.hid (E0.out.only o2 (fun e => by have := HLT.out _ (.inl e); omega))
    have y0 : w2.cell? ⟨w.heap.size, 0, none⟩ = some (.pointer (some ⟨g, 0, none⟩)) := T2.out.cell 0
    have y7 := G2.out.row.cell 7
    have g7 := G2.out.row.soft 7
    simp only [tkC, in17, List.getElem?_cons_zero, List.getElem?_cons_succ] at y7
    refine leaves_cons (f := 77) (args := #[.pointer (some ⟨w.heap.size, 0, none⟩)]) (by simp) (by simp [go_sem]) ?_
    refine (caught17 w2 y0 y7 g7).mono ?_
    rintro e u' w3 ⟨rfl, rfl, rfl⟩
    simp [Leaves, settle, results, Tryz.results44, go_sem]
    exact endT17 HI.out E2.out G2.out r2 o2 HGD.out hgl (hk2.imp id (fun ⟨x, h1, h2⟩ => ⟨x, h1, by omega⟩)) (hv2.imp id (fun ⟨x, h1, h2⟩ => ⟨x, h1, by omega⟩))
set_option maxRecDepth 100000 in
set_option maxHeartbeats 4000000 in
theorem accT17_s2 (w : World) (r : KAt w g G s vl vg) (h : Acc17 G) (rp : PtAt w t p a b k v V E K T) (hT : TabAt w) (hdis : ∀ x, own17 g s vl vg x → ¬ (own14 t p a k v x ∨ x = b)) (hl : T.length ≤ 65536) (hst : G.st = 2) :
    Calls Tryz.prog 44 #[.pointer (some ⟨g, 0, none⟩), tface14 t] w (AccT17 g G s vl vg t p a b k v (put14 V (ad17 G 4 0 0) ((0) % 65536)) E K (T ++ [(2, ad17 G 4 0 0, 0)]) 0 w) := by
  have hmf : ∀ (fn : Fn) (first cap : Array Value) (w : World), (Instr.makeFunc fn first cap).run Tryz.prog w = .ok (.func fn first cap) w := fun _ _ _ _ => rfl
  obtain ⟨A, hA⟩ : ∃ A, ad17 G 4 0 0 = A := ⟨_, rfl⟩
  rw [hA]
  have f7 := r.row.soft 7
  have c7 := r.row.cell 7
  have c6 := r.row.cell 6
  simp only [tkC, List.getElem?_cons_zero, List.getElem?_cons_succ] at c6 c7
  rw [h.ins] at c7
  rw [hst] at c6
  have hgl := r.row.lt
  have HLT := Lib.hid rp.lt
  have HI := Lib.hid h.ins
  obtain ⟨e0, e1, e2⟩ := enter17 w r
  obtain ⟨w1, hw1⟩ : ∃ w1, w1 = (w.setCell ⟨g, 7, none⟩ (.bool true)).alloc (.cells #[.pointer (some ⟨g, 0, none⟩)] 29) := ⟨_, rfl⟩
  rw [← hw1] at e0 e1 e2
  have hsz := e2.size
  have hgd : ∀ x, own14 t p a k v x ∨ x = b → x ≠ g := fun x hx e => hdis g (.inl rfl) (by rw [← e]; exact hx)
  have rp1 := rp.only e2 (fun x hx e => hgd x hx e)
  have hT1 : TabAt w1 := hT.only17 e2 (fun e => tab_ne17 hT r e)
  have z0 : w1.cell? ⟨w.heap.size, 0, none⟩ = some (.pointer (some ⟨g, 0, none⟩)) := e0.cell 0
  have K5 := Lib.hid (fun W (hb : Below w1.heap.size w1 W) => (at17_any (T := in17 G) 4 0 0 W (e1.below hb) h.B h.R.2 (hT1.below hb)).mono (R' := fun e w' => e = .returned (.int .i64 A) ∧ Below w1.heap.size w1 w') (fun _ _ ⟨he, hb'⟩ => ⟨by rw [he, ← hA]; rfl, below_on hb hb'⟩))
  have E0 := Lib.hid e0
  have E1 := Lib.hid e1
  have E2 := Lib.hid e2
  have HGD := Lib.hid hgd
  have HD := Lib.hid (fun x (hx : own17 g s vl vg x) (hy : own14 t p a k v x) => hdis x hx (.inl hy))
  clear r h rp hT hdis e0 e1 e2 hgd hst
  have KP := Lib.hid (fun W (hb : Below w1.heap.size w1 W) => (tstore14_any A 0 W (rp1.below hb) hl).mono (fun _ _ h => PtP.since hb h))
  have SB : Hid (∀ W, Row W w.heap.size 29 [.pointer (some ⟨g, 0, none⟩)] → KAt W g (in17 G) s vl vg → W.cell? ⟨w.heap.size, 0, none⟩ = some (.pointer (some ⟨g, 0, none⟩))) := Lib.hid (fun W q0 q1 => ?sb)
  case sb =>
    have d0 := q0.cell 0
    exact d0
  have SN : Hid (∀ W, Below w1.heap.size w1 W → W.cell? ⟨w.heap.size, 0, none⟩ = some (.pointer (some ⟨g, 0, none⟩))) := Lib.hid (fun W hb => SB.out W (E0.out.below hb) (E1.out.below hb))
  have SO : Hid (∀ W, Only (own14 t p a k v) w1 W → W.cell? ⟨w.heap.size, 0, none⟩ = some (.pointer (some ⟨g, 0, none⟩))) := Lib.hid (fun W ho => SB.out W (E0.out.only ho (fun e => by have := HLT.out _ (.inl e); omega)) (E1.out.only ho (fun x hx hy => HD.out x hx hy)))
  unfold tface14
  go_enter_defers Tryz.func44, Tryz.ntmps44
  go_wp2_with fail
  rw [← hw1]
  clear hw1
  have hS0 := SN.out w1.drew (Below.refl _ _).drew
  have hbd : Below w1.heap.size w1 w1.drew := (Below.refl _ _).drew
  generalize hQ : w.heap.size = Q at *
  go_region_held3 (fun W => W.cell? ⟨Q, 0, none⟩ = some (.pointer (some ⟨g, 0, none⟩)))
    (first | exact hS0 | exact hS2 | exact hS5 | go_keep)
    (first
      | (go_at_call 114; refine (KP.out _ (by first | assumption)).mono ?_; rintro e w2 ⟨k2, v2, rfl, r2, o2, hk2, hv2⟩; have hS2 := SO.out _ o2)
      | (go_at_call 78; refine (K5.out _ (by first | assumption)).mono ?_; rintro e w5 ⟨rfl, hb5⟩; have hS5 := SN.out _ hb5))
  subst hQ
  all_goals
    go_wp2_with fail
    have G2 := Lib.hid (E1.out.only o2 (fun x hx hy => HD.out x hx hy))
    have T2 := Lib.hid (E0.out.only o2 (fun e => by have := HLT.out _ (.inl e); omega))
    have y0 : w2.cell? ⟨w.heap.size, 0, none⟩ = some (.pointer (some ⟨g, 0, none⟩)) := T2.out.cell 0
    have y7 := G2.out.row.cell 7
    have g7 := G2.out.row.soft 7
    simp only [tkC, in17, List.getElem?_cons_zero, List.getElem?_cons_succ] at y7
    refine leaves_cons (f := 77) (args := #[.pointer (some ⟨w.heap.size, 0, none⟩)]) (by simp) (by simp [go_sem]) ?_
    refine (caught17 w2 y0 y7 g7).mono ?_
    rintro e u' w3 ⟨rfl, rfl, rfl⟩
    simp [Leaves, settle, results, Tryz.results44, go_sem]
    exact endT17 HI.out E2.out G2.out r2 o2 HGD.out hgl (hk2.imp id (fun ⟨x, h1, h2⟩ => ⟨x, h1, by omega⟩)) (hv2.imp id (fun ⟨x, h1, h2⟩ => ⟨x, h1, by omega⟩))
set_option maxRecDepth 100000 in
set_option maxHeartbeats 4000000 in
theorem accT17_s3 (w : World) (r : KAt w g G s vl vg) (h : Acc17 G) (rp : PtAt w t p a b k v V E K T) (hT : TabAt w) (hdis : ∀ x, own17 g s vl vg x → ¬ (own14 t p a k v x ∨ x = b)) (hl : T.length ≤ 65536) (hst : G.st = 3) :
    Calls Tryz.prog 44 #[.pointer (some ⟨g, 0, none⟩), tface14 t] w (AccT17 g G s vl vg t p a b k v (put14 V (ad17 G 2 0 0) ((ep17 G) % 65536)) E K (T ++ [(2, ad17 G 2 0 0, ep17 G)]) 0 w) := by
  have hmf : ∀ (fn : Fn) (first cap : Array Value) (w : World), (Instr.makeFunc fn first cap).run Tryz.prog w = .ok (.func fn first cap) w := fun _ _ _ _ => rfl
  obtain ⟨U, hU⟩ : ∃ A, ep17 G = A := ⟨_, rfl⟩
  rw [hU]
  obtain ⟨A, hA⟩ : ∃ A, ad17 G 2 0 0 = A := ⟨_, rfl⟩
  rw [hA]
  have f7 := r.row.soft 7
  have c7 := r.row.cell 7
  have c6 := r.row.cell 6
  simp only [tkC, List.getElem?_cons_zero, List.getElem?_cons_succ] at c6 c7
  rw [h.ins] at c7
  rw [hst] at c6
  have hgl := r.row.lt
  have HLT := Lib.hid rp.lt
  have HI := Lib.hid h.ins
  obtain ⟨e0, e1, e2⟩ := enter17 w r
  obtain ⟨w1, hw1⟩ : ∃ w1, w1 = (w.setCell ⟨g, 7, none⟩ (.bool true)).alloc (.cells #[.pointer (some ⟨g, 0, none⟩)] 29) := ⟨_, rfl⟩
  rw [← hw1] at e0 e1 e2
  have hsz := e2.size
  have hgd : ∀ x, own14 t p a k v x ∨ x = b → x ≠ g := fun x hx e => hdis g (.inl rfl) (by rw [← e]; exact hx)
  have rp1 := rp.only e2 (fun x hx e => hgd x hx e)
  have hT1 : TabAt w1 := hT.only17 e2 (fun e => tab_ne17 hT r e)
  have z0 : w1.cell? ⟨w.heap.size, 0, none⟩ = some (.pointer (some ⟨g, 0, none⟩)) := e0.cell 0
  have K5 := Lib.hid (fun W (hb : Below w1.heap.size w1 W) => (at17_any (T := in17 G) 2 0 0 W (e1.below hb) h.B h.R.2 (hT1.below hb)).mono (R' := fun e w' => e = .returned (.int .i64 A) ∧ Below w1.heap.size w1 w') (fun _ _ ⟨he, hb'⟩ => ⟨by rw [he, ← hA]; rfl, below_on hb hb'⟩))
  have K6 := Lib.hid (fun W (hb : Below w1.heap.size w1 W) => (epoch17_any (T := in17 G) W (e1.below hb)).mono (R' := fun e w' => e = .returned (.int .i64 U) ∧ Below w1.heap.size w1 w') (fun _ _ ⟨he, hb'⟩ => ⟨by rw [he, ← hU]; rfl, below_on hb hb'⟩))
  have E0 := Lib.hid e0
  have E1 := Lib.hid e1
  have E2 := Lib.hid e2
  have HGD := Lib.hid hgd
  have HD := Lib.hid (fun x (hx : own17 g s vl vg x) (hy : own14 t p a k v x) => hdis x hx (.inl hy))
  clear r h rp hT hdis e0 e1 e2 hgd hst
  have KP := Lib.hid (fun W (hb : Below w1.heap.size w1 W) => (tstore14_any A U W (rp1.below hb) hl).mono (fun _ _ h => PtP.since hb h))
  have SB : Hid (∀ W, Row W w.heap.size 29 [.pointer (some ⟨g, 0, none⟩)] → KAt W g (in17 G) s vl vg → W.cell? ⟨w.heap.size, 0, none⟩ = some (.pointer (some ⟨g, 0, none⟩))) := Lib.hid (fun W q0 q1 => ?sb)
  case sb =>
    have d0 := q0.cell 0
    exact d0
  have SN : Hid (∀ W, Below w1.heap.size w1 W → W.cell? ⟨w.heap.size, 0, none⟩ = some (.pointer (some ⟨g, 0, none⟩))) := Lib.hid (fun W hb => SB.out W (E0.out.below hb) (E1.out.below hb))
  have SO : Hid (∀ W, Only (own14 t p a k v) w1 W → W.cell? ⟨w.heap.size, 0, none⟩ = some (.pointer (some ⟨g, 0, none⟩))) := Lib.hid (fun W ho => SB.out W (E0.out.only ho (fun e => by have := HLT.out _ (.inl e); omega)) (E1.out.only ho (fun x hx hy => HD.out x hx hy)))
  unfold tface14
  go_enter_defers Tryz.func44, Tryz.ntmps44
  go_wp2_with fail
  rw [← hw1]
  clear hw1
  have hS0 := SN.out w1.drew (Below.refl _ _).drew
  have hbd : Below w1.heap.size w1 w1.drew := (Below.refl _ _).drew
  generalize hQ : w.heap.size = Q at *
  go_region_held3 (fun W => W.cell? ⟨Q, 0, none⟩ = some (.pointer (some ⟨g, 0, none⟩)))
    (first | exact hS0 | exact hS2 | exact hS5 | exact hS6 | go_keep)
    (first
      | (go_at_call 114; refine (KP.out _ (by first | assumption)).mono ?_; rintro e w2 ⟨k2, v2, rfl, r2, o2, hk2, hv2⟩; have hS2 := SO.out _ o2)
      | (go_at_call 78; refine (K5.out _ (by first | assumption)).mono ?_; rintro e w5 ⟨rfl, hb5⟩; have hS5 := SN.out _ hb5)
      | (go_at_call 72; refine (K6.out _ (by first | assumption)).mono ?_; rintro e w6 ⟨rfl, hb6⟩; have hS6 := SN.out _ hb6))
  subst hQ
  all_goals
    go_wp2_with fail
    have G2 := Lib.hid (E1.out.only o2 (fun x hx hy => HD.out x hx hy))
    have T2 := Lib.hid (E0.out.only o2 (fun e => by have := HLT.out _ (.inl e); omega))
    have y0 : w2.cell? ⟨w.heap.size, 0, none⟩ = some (.pointer (some ⟨g, 0, none⟩)) := T2.out.cell 0
    have y7 := G2.out.row.cell 7
    have g7 := G2.out.row.soft 7
    simp only [tkC, in17, List.getElem?_cons_zero, List.getElem?_cons_succ] at y7
    refine leaves_cons (f := 77) (args := #[.pointer (some ⟨w.heap.size, 0, none⟩)]) (by simp) (by simp [go_sem]) ?_
    refine (caught17 w2 y0 y7 g7).mono ?_
    rintro e u' w3 ⟨rfl, rfl, rfl⟩
    simp [Leaves, settle, results, Tryz.results44, go_sem]
    exact endT17 HI.out E2.out G2.out r2 o2 HGD.out hgl (hk2.imp id (fun ⟨x, h1, h2⟩ => ⟨x, h1, by omega⟩)) (hv2.imp id (fun ⟨x, h1, h2⟩ => ⟨x, h1, by omega⟩))
set_option maxRecDepth 100000 in
set_option maxHeartbeats 4000000 in
theorem accT17_s5 (w : World) (r : KAt w g G s vl vg) (h : Acc17 G) (rp : PtAt w t p a b k v V E K T) (hT : TabAt w) (hdis : ∀ x, own17 g s vl vg x → ¬ (own14 t p a k v x ∨ x = b)) (hl : T.length ≤ 65536) (hst : G.st = 5) :
    Calls Tryz.prog 44 #[.pointer (some ⟨g, 0, none⟩), tface14 t] w (AccT17 g G s vl vg t p a b k v V E K (T ++ [(1, ad17 G 1 0 0, nth14 V (ad17 G 1 0 0))]) (nth14 V (ad17 G 1 0 0)) w) := by
  have hmf : ∀ (fn : Fn) (first cap : Array Value) (w : World), (Instr.makeFunc fn first cap).run Tryz.prog w = .ok (.func fn first cap) w := fun _ _ _ _ => rfl
  obtain ⟨A, hA⟩ : ∃ A, ad17 G 1 0 0 = A := ⟨_, rfl⟩
  rw [hA]
  have f7 := r.row.soft 7
  have c7 := r.row.cell 7
  have c6 := r.row.cell 6
  simp only [tkC, List.getElem?_cons_zero, List.getElem?_cons_succ] at c6 c7
  rw [h.ins] at c7
  rw [hst] at c6
  have hgl := r.row.lt
  have HLT := Lib.hid rp.lt
  have HI := Lib.hid h.ins
  obtain ⟨e0, e1, e2⟩ := enter17 w r
  obtain ⟨w1, hw1⟩ : ∃ w1, w1 = (w.setCell ⟨g, 7, none⟩ (.bool true)).alloc (.cells #[.pointer (some ⟨g, 0, none⟩)] 29) := ⟨_, rfl⟩
  rw [← hw1] at e0 e1 e2
  have hsz := e2.size
  have hgd : ∀ x, own14 t p a k v x ∨ x = b → x ≠ g := fun x hx e => hdis g (.inl rfl) (by rw [← e]; exact hx)
  have rp1 := rp.only e2 (fun x hx e => hgd x hx e)
  have hT1 : TabAt w1 := hT.only17 e2 (fun e => tab_ne17 hT r e)
  have z0 : w1.cell? ⟨w.heap.size, 0, none⟩ = some (.pointer (some ⟨g, 0, none⟩)) := e0.cell 0
  have K5 := Lib.hid (fun W (hb : Below w1.heap.size w1 W) => (at17_any (T := in17 G) 1 0 0 W (e1.below hb) h.B h.R.2 (hT1.below hb)).mono (R' := fun e w' => e = .returned (.int .i64 A) ∧ Below w1.heap.size w1 w') (fun _ _ ⟨he, hb'⟩ => ⟨by rw [he, ← hA]; rfl, below_on hb hb'⟩))
  have E0 := Lib.hid e0
  have E1 := Lib.hid e1
  have E2 := Lib.hid e2
  have HGD := Lib.hid hgd
  have HD := Lib.hid (fun x (hx : own17 g s vl vg x) (hy : own14 t p a k v x) => hdis x hx (.inl hy))
  clear r h rp hT hdis e0 e1 e2 hgd hst
  have KP := Lib.hid (fun W (hb : Below w1.heap.size w1 W) => (tload14_any A W (rp1.below hb) hl).mono (fun _ _ h => PtP.since hb h))
  have SB : Hid (∀ W, Row W w.heap.size 29 [.pointer (some ⟨g, 0, none⟩)] → KAt W g (in17 G) s vl vg → W.cell? ⟨w.heap.size, 0, none⟩ = some (.pointer (some ⟨g, 0, none⟩))) := Lib.hid (fun W q0 q1 => ?sb)
  case sb =>
    have d0 := q0.cell 0
    exact d0
  have SN : Hid (∀ W, Below w1.heap.size w1 W → W.cell? ⟨w.heap.size, 0, none⟩ = some (.pointer (some ⟨g, 0, none⟩))) := Lib.hid (fun W hb => SB.out W (E0.out.below hb) (E1.out.below hb))
  have SO : Hid (∀ W, Only (own14 t p a k v) w1 W → W.cell? ⟨w.heap.size, 0, none⟩ = some (.pointer (some ⟨g, 0, none⟩))) := Lib.hid (fun W ho => SB.out W (E0.out.only ho (fun e => by have := HLT.out _ (.inl e); omega)) (E1.out.only ho (fun x hx hy => HD.out x hx hy)))
  unfold tface14
  go_enter_defers Tryz.func44, Tryz.ntmps44
  go_wp2_with fail
  rw [← hw1]
  clear hw1
  have hS0 := SN.out w1.drew (Below.refl _ _).drew
  have hbd : Below w1.heap.size w1 w1.drew := (Below.refl _ _).drew
  generalize hQ : w.heap.size = Q at *
  go_region_held3 (fun W => W.cell? ⟨Q, 0, none⟩ = some (.pointer (some ⟨g, 0, none⟩)))
    (first | exact hS0 | exact hS2 | exact hS5 | go_keep)
    (first
      | (go_at_call 113; refine (KP.out _ (by first | assumption)).mono ?_; rintro e w2 ⟨k2, v2, rfl, r2, o2, hk2, hv2⟩; have hS2 := SO.out _ o2)
      | (go_at_call 78; refine (K5.out _ (by first | assumption)).mono ?_; rintro e w5 ⟨rfl, hb5⟩; have hS5 := SN.out _ hb5))
  subst hQ
  all_goals
    go_wp2_with fail
    have G2 := Lib.hid (E1.out.only o2 (fun x hx hy => HD.out x hx hy))
    have T2 := Lib.hid (E0.out.only o2 (fun e => by have := HLT.out _ (.inl e); omega))
    have y0 : w2.cell? ⟨w.heap.size, 0, none⟩ = some (.pointer (some ⟨g, 0, none⟩)) := T2.out.cell 0
    have y7 := G2.out.row.cell 7
    have g7 := G2.out.row.soft 7
    simp only [tkC, in17, List.getElem?_cons_zero, List.getElem?_cons_succ] at y7
    refine leaves_cons (f := 77) (args := #[.pointer (some ⟨w.heap.size, 0, none⟩)]) (by simp) (by simp [go_sem]) ?_
    refine (caught17 w2 y0 y7 g7).mono ?_
    rintro e u' w3 ⟨rfl, rfl, rfl⟩
    simp [Leaves, settle, results, Tryz.results44, go_sem]
    exact endT17 HI.out E2.out G2.out r2 o2 HGD.out hgl (hk2.imp id (fun ⟨x, h1, h2⟩ => ⟨x, h1, by omega⟩)) (hv2.imp id (fun ⟨x, h1, h2⟩ => ⟨x, h1, by omega⟩))
set_option maxRecDepth 100000 in
set_option maxHeartbeats 4000000 in
theorem accT17_s6 (w : World) (r : KAt w g G s vl vg) (h : Acc17 G) (rp : PtAt w t p a b k v V E K T) (hT : TabAt w) (hdis : ∀ x, own17 g s vl vg x → ¬ (own14 t p a k v x ∨ x = b)) (hl : T.length ≤ 65536) (hst : G.st = 6) :
    Calls Tryz.prog 44 #[.pointer (some ⟨g, 0, none⟩), tface14 t] w (AccT17 g G s vl vg t p a b k v V E K (T ++ [(1, ad17 G 3 0 0, nth14 V (ad17 G 3 0 0))]) (nth14 V (ad17 G 3 0 0)) w) := by
  have hmf : ∀ (fn : Fn) (first cap : Array Value) (w : World), (Instr.makeFunc fn first cap).run Tryz.prog w = .ok (.func fn first cap) w := fun _ _ _ _ => rfl
  obtain ⟨A, hA⟩ : ∃ A, ad17 G 3 0 0 = A := ⟨_, rfl⟩
  rw [hA]
  have f7 := r.row.soft 7
  have c7 := r.row.cell 7
  have c6 := r.row.cell 6
  simp only [tkC, List.getElem?_cons_zero, List.getElem?_cons_succ] at c6 c7
  rw [h.ins] at c7
  rw [hst] at c6
  have hgl := r.row.lt
  have HLT := Lib.hid rp.lt
  have HI := Lib.hid h.ins
  obtain ⟨e0, e1, e2⟩ := enter17 w r
  obtain ⟨w1, hw1⟩ : ∃ w1, w1 = (w.setCell ⟨g, 7, none⟩ (.bool true)).alloc (.cells #[.pointer (some ⟨g, 0, none⟩)] 29) := ⟨_, rfl⟩
  rw [← hw1] at e0 e1 e2
  have hsz := e2.size
  have hgd : ∀ x, own14 t p a k v x ∨ x = b → x ≠ g := fun x hx e => hdis g (.inl rfl) (by rw [← e]; exact hx)
  have rp1 := rp.only e2 (fun x hx e => hgd x hx e)
  have hT1 : TabAt w1 := hT.only17 e2 (fun e => tab_ne17 hT r e)
  have z0 : w1.cell? ⟨w.heap.size, 0, none⟩ = some (.pointer (some ⟨g, 0, none⟩)) := e0.cell 0
  have K5 := Lib.hid (fun W (hb : Below w1.heap.size w1 W) => (at17_any (T := in17 G) 3 0 0 W (e1.below hb) h.B h.R.2 (hT1.below hb)).mono (R' := fun e w' => e = .returned (.int .i64 A) ∧ Below w1.heap.size w1 w') (fun _ _ ⟨he, hb'⟩ => ⟨by rw [he, ← hA]; rfl, below_on hb hb'⟩))
  have E0 := Lib.hid e0
  have E1 := Lib.hid e1
  have E2 := Lib.hid e2
  have HGD := Lib.hid hgd
  have HD := Lib.hid (fun x (hx : own17 g s vl vg x) (hy : own14 t p a k v x) => hdis x hx (.inl hy))
  clear r h rp hT hdis e0 e1 e2 hgd hst
  have KP := Lib.hid (fun W (hb : Below w1.heap.size w1 W) => (tload14_any A W (rp1.below hb) hl).mono (fun _ _ h => PtP.since hb h))
  have SB : Hid (∀ W, Row W w.heap.size 29 [.pointer (some ⟨g, 0, none⟩)] → KAt W g (in17 G) s vl vg → W.cell? ⟨w.heap.size, 0, none⟩ = some (.pointer (some ⟨g, 0, none⟩))) := Lib.hid (fun W q0 q1 => ?sb)
  case sb =>
    have d0 := q0.cell 0
    exact d0
  have SN : Hid (∀ W, Below w1.heap.size w1 W → W.cell? ⟨w.heap.size, 0, none⟩ = some (.pointer (some ⟨g, 0, none⟩))) := Lib.hid (fun W hb => SB.out W (E0.out.below hb) (E1.out.below hb))
  have SO : Hid (∀ W, Only (own14 t p a k v) w1 W → W.cell? ⟨w.heap.size, 0, none⟩ = some (.pointer (some ⟨g, 0, none⟩))) := Lib.hid (fun W ho => SB.out W (E0.out.only ho (fun e => by have := HLT.out _ (.inl e); omega)) (E1.out.only ho (fun x hx hy => HD.out x hx hy)))
  unfold tface14
  go_enter_defers Tryz.func44, Tryz.ntmps44
  go_wp2_with fail
  rw [← hw1]
  clear hw1
  have hS0 := SN.out w1.drew (Below.refl _ _).drew
  have hbd : Below w1.heap.size w1 w1.drew := (Below.refl _ _).drew
  generalize hQ : w.heap.size = Q at *
  go_region_held3 (fun W => W.cell? ⟨Q, 0, none⟩ = some (.pointer (some ⟨g, 0, none⟩)))
    (first | exact hS0 | exact hS2 | exact hS5 | go_keep)
    (first
      | (go_at_call 113; refine (KP.out _ (by first | assumption)).mono ?_; rintro e w2 ⟨k2, v2, rfl, r2, o2, hk2, hv2⟩; have hS2 := SO.out _ o2)
      | (go_at_call 78; refine (K5.out _ (by first | assumption)).mono ?_; rintro e w5 ⟨rfl, hb5⟩; have hS5 := SN.out _ hb5))
  subst hQ
  all_goals
    go_wp2_with fail
    have G2 := Lib.hid (E1.out.only o2 (fun x hx hy => HD.out x hx hy))
    have T2 := Lib.hid (E0.out.only o2 (fun e => by have := HLT.out _ (.inl e); omega))
    have y0 : w2.cell? ⟨w.heap.size, 0, none⟩ = some (.pointer (some ⟨g, 0, none⟩)) := T2.out.cell 0
    have y7 := G2.out.row.cell 7
    have g7 := G2.out.row.soft 7
    simp only [tkC, in17, List.getElem?_cons_zero, List.getElem?_cons_succ] at y7
    refine leaves_cons (f := 77) (args := #[.pointer (some ⟨w.heap.size, 0, none⟩)]) (by simp) (by simp [go_sem]) ?_
    refine (caught17 w2 y0 y7 g7).mono ?_
    rintro e u' w3 ⟨rfl, rfl, rfl⟩
    simp [Leaves, settle, results, Tryz.results44, go_sem]
    exact endT17 HI.out E2.out G2.out r2 o2 HGD.out hgl (hk2.imp id (fun ⟨x, h1, h2⟩ => ⟨x, h1, by omega⟩)) (hv2.imp id (fun ⟨x, h1, h2⟩ => ⟨x, h1, by omega⟩))
set_option maxRecDepth 100000 in
set_option maxHeartbeats 4000000 in
theorem accT17_s7 (w : World) (r : KAt w g G s vl vg) (h : Acc17 G) (rp : PtAt w t p a b k v V E K T) (hT : TabAt w) (hdis : ∀ x, own17 g s vl vg x → ¬ (own14 t p a k v x ∨ x = b)) (hl : T.length ≤ 65536) (hst : G.st = 7) :
    Calls Tryz.prog 44 #[.pointer (some ⟨g, 0, none⟩), tface14 t] w (AccT17 g G s vl vg t p a b k v V E K (T ++ [(1, ad17 G 5 (G.head % (G.R : Int)) 0, nth14 V (ad17 G 5 (G.head % (G.R : Int)) 0))]) (nth14 V (ad17 G 5 (G.head % (G.R : Int)) 0)) w) := by
  have hmf : ∀ (fn : Fn) (first cap : Array Value) (w : World), (Instr.makeFunc fn first cap).run Tryz.prog w = .ok (.func fn first cap) w := fun _ _ _ _ => rfl
  obtain ⟨m, hm⟩ : ∃ m, G.head % (G.R : Int) = m := ⟨_, rfl⟩
  have hm0 : 0 ≤ m ∧ m < 64 := by
    have h1 := Int.emod_nonneg G.head (show (G.R : Int) ≠ 0 by have := h.R; omega)
    have h2 := Int.emod_lt_of_pos G.head (show (0 : Int) < (G.R : Int) by have := h.R; omega)
    have := h.R
    omega
  have hmt : G.head.tmod (G.R : Int) = m := by rw [Int.tmod_eq_emod_of_nonneg h.head.1]; exact hm
  have hmw : wrap64 m = m := by rw [← IntWalk.i64_left, IntWalk.i64_in _ (by omega)]
  have hR0 : (G.R : Int) ≠ 0 := by have := h.R; omega
  have hR1 : ¬ G.R = 0 := by have := h.R; omega
  rw [hm]
  obtain ⟨A, hA⟩ : ∃ A, ad17 G 5 m 0 = A := ⟨_, rfl⟩
  rw [hA]
  have f7 := r.row.soft 7
  have c7 := r.row.cell 7
  have c6 := r.row.cell 6
  simp only [tkC, List.getElem?_cons_zero, List.getElem?_cons_succ] at c6 c7
  rw [h.ins] at c7
  rw [hst] at c6
  have hgl := r.row.lt
  have HLT := Lib.hid rp.lt
  have HI := Lib.hid h.ins
  obtain ⟨e0, e1, e2⟩ := enter17 w r
  obtain ⟨w1, hw1⟩ : ∃ w1, w1 = (w.setCell ⟨g, 7, none⟩ (.bool true)).alloc (.cells #[.pointer (some ⟨g, 0, none⟩)] 29) := ⟨_, rfl⟩
  rw [← hw1] at e0 e1 e2
  have hsz := e2.size
  have hgd : ∀ x, own14 t p a k v x ∨ x = b → x ≠ g := fun x hx e => hdis g (.inl rfl) (by rw [← e]; exact hx)
  have rp1 := rp.only e2 (fun x hx e => hgd x hx e)
  have hT1 : TabAt w1 := hT.only17 e2 (fun e => tab_ne17 hT r e)
  have z0 : w1.cell? ⟨w.heap.size, 0, none⟩ = some (.pointer (some ⟨g, 0, none⟩)) := e0.cell 0
  have c1 := e1.row.cell 1
  have c10 := e1.row.cell 10
  simp only [tkC, in17, List.getElem?_cons_zero, List.getElem?_cons_succ] at c1 c10
  have K5 := Lib.hid (fun W (hb : Below w1.heap.size w1 W) => (at17_any (T := in17 G) 5 m 0 W (e1.below hb) h.B h.R.2 (hT1.below hb)).mono (R' := fun e w' => e = .returned (.int .i64 A) ∧ Below w1.heap.size w1 w') (fun _ _ ⟨he, hb'⟩ => ⟨by rw [he, ← hA]; rfl, below_on hb hb'⟩))
  have E0 := Lib.hid e0
  have E1 := Lib.hid e1
  have E2 := Lib.hid e2
  have HGD := Lib.hid hgd
  have HD := Lib.hid (fun x (hx : own17 g s vl vg x) (hy : own14 t p a k v x) => hdis x hx (.inl hy))
  clear r h rp hT hdis e0 e1 e2 hgd hst
  have KP := Lib.hid (fun W (hb : Below w1.heap.size w1 W) => (tload14_any A W (rp1.below hb) hl).mono (fun _ _ h => PtP.since hb h))
  have SB : Hid (∀ W, Row W w.heap.size 29 [.pointer (some ⟨g, 0, none⟩)] → KAt W g (in17 G) s vl vg → W.cell? ⟨w.heap.size, 0, none⟩ = some (.pointer (some ⟨g, 0, none⟩)) ∧ W.cell? ⟨g, 1, none⟩ = some (.int .i64 (G.R : Int)) ∧ W.cell? ⟨g, 10, none⟩ = some (.int .i64 G.head)) := Lib.hid (fun W q0 q1 => ?sb)
  case sb =>
    have d0 := q0.cell 0
    have d1 := q1.row.cell 1
    have d10 := q1.row.cell 10
    simp only [tkC, in17, List.getElem?_cons_zero, List.getElem?_cons_succ] at d1 d10
    exact ⟨d0, d1, d10⟩
  have SN : Hid (∀ W, Below w1.heap.size w1 W → W.cell? ⟨w.heap.size, 0, none⟩ = some (.pointer (some ⟨g, 0, none⟩)) ∧ W.cell? ⟨g, 1, none⟩ = some (.int .i64 (G.R : Int)) ∧ W.cell? ⟨g, 10, none⟩ = some (.int .i64 G.head)) := Lib.hid (fun W hb => SB.out W (E0.out.below hb) (E1.out.below hb))
  have SO : Hid (∀ W, Only (own14 t p a k v) w1 W → W.cell? ⟨w.heap.size, 0, none⟩ = some (.pointer (some ⟨g, 0, none⟩)) ∧ W.cell? ⟨g, 1, none⟩ = some (.int .i64 (G.R : Int)) ∧ W.cell? ⟨g, 10, none⟩ = some (.int .i64 G.head)) := Lib.hid (fun W ho => SB.out W (E0.out.only ho (fun e => by have := HLT.out _ (.inl e); omega)) (E1.out.only ho (fun x hx hy => HD.out x hx hy)))
  unfold tface14
  go_enter_defers Tryz.func44, Tryz.ntmps44
  go_wp2_with fail
  rw [← hw1]
  clear hw1
  have hS0 := SN.out w1.drew (Below.refl _ _).drew
  have hbd : Below w1.heap.size w1 w1.drew := (Below.refl _ _).drew
  generalize hQ : w.heap.size = Q at *
  go_region_held3 (fun W => W.cell? ⟨Q, 0, none⟩ = some (.pointer (some ⟨g, 0, none⟩)) ∧ W.cell? ⟨g, 1, none⟩ = some (.int .i64 (G.R : Int)) ∧ W.cell? ⟨g, 10, none⟩ = some (.int .i64 G.head))
    (first | exact hS0 | exact hS2 | exact hS5 | go_keep)
    (first
      | (go_at_call 113; refine (KP.out _ (by first | assumption)).mono ?_; rintro e w2 ⟨k2, v2, rfl, r2, o2, hk2, hv2⟩; have hS2 := SO.out _ o2)
      | (go_at_call 78; refine (K5.out _ (by first | assumption)).mono ?_; rintro e w5 ⟨rfl, hb5⟩; have hS5 := SN.out _ hb5))
  subst hQ
  all_goals
    go_wp2_with fail
    have G2 := Lib.hid (E1.out.only o2 (fun x hx hy => HD.out x hx hy))
    have T2 := Lib.hid (E0.out.only o2 (fun e => by have := HLT.out _ (.inl e); omega))
    have y0 : w2.cell? ⟨w.heap.size, 0, none⟩ = some (.pointer (some ⟨g, 0, none⟩)) := T2.out.cell 0
    have y7 := G2.out.row.cell 7
    have g7 := G2.out.row.soft 7
    simp only [tkC, in17, List.getElem?_cons_zero, List.getElem?_cons_succ] at y7
    refine leaves_cons (f := 77) (args := #[.pointer (some ⟨w.heap.size, 0, none⟩)]) (by simp) (by simp [go_sem]) ?_
    refine (caught17 w2 y0 y7 g7).mono ?_
    rintro e u' w3 ⟨rfl, rfl, rfl⟩
    simp [Leaves, settle, results, Tryz.results44, go_sem]
    exact endT17 HI.out E2.out G2.out r2 o2 HGD.out hgl (hk2.imp id (fun ⟨x, h1, h2⟩ => ⟨x, h1, by omega⟩)) (hv2.imp id (fun ⟨x, h1, h2⟩ => ⟨x, h1, by omega⟩))
set_option maxRecDepth 100000 in
set_option maxHeartbeats 4000000 in
theorem accT17_s8 (w : World) (r : KAt w g G s vl vg) (h : Acc17 G) (rp : PtAt w t p a b k v V E K T) (hT : TabAt w) (hdis : ∀ x, own17 g s vl vg x → ¬ (own14 t p a k v x ∨ x = b)) (hl : T.length ≤ 65536) (hst : G.st = 8) :
    Calls Tryz.prog 44 #[.pointer (some ⟨g, 0, none⟩), tface14 t] w (AccT17 g G s vl vg t p a b k v V E K (T ++ [(1, ad17 G 7 G.slot 0, nth14 V (ad17 G 7 G.slot 0))]) (nth14 V (ad17 G 7 G.slot 0)) w) := by
  have hmf : ∀ (fn : Fn) (first cap : Array Value) (w : World), (Instr.makeFunc fn first cap).run Tryz.prog w = .ok (.func fn first cap) w := fun _ _ _ _ => rfl
  obtain ⟨A, hA⟩ : ∃ A, ad17 G 7 G.slot 0 = A := ⟨_, rfl⟩
  rw [hA]
  have f7 := r.row.soft 7
  have c7 := r.row.cell 7
  have c6 := r.row.cell 6
  simp only [tkC, List.getElem?_cons_zero, List.getElem?_cons_succ] at c6 c7
  rw [h.ins] at c7
  rw [hst] at c6
  have hgl := r.row.lt
  have HLT := Lib.hid rp.lt
  have HI := Lib.hid h.ins
  obtain ⟨e0, e1, e2⟩ := enter17 w r
  obtain ⟨w1, hw1⟩ : ∃ w1, w1 = (w.setCell ⟨g, 7, none⟩ (.bool true)).alloc (.cells #[.pointer (some ⟨g, 0, none⟩)] 29) := ⟨_, rfl⟩
  rw [← hw1] at e0 e1 e2
  have hsz := e2.size
  have hgd : ∀ x, own14 t p a k v x ∨ x = b → x ≠ g := fun x hx e => hdis g (.inl rfl) (by rw [← e]; exact hx)
  have rp1 := rp.only e2 (fun x hx e => hgd x hx e)
  have hT1 : TabAt w1 := hT.only17 e2 (fun e => tab_ne17 hT r e)
  have z0 : w1.cell? ⟨w.heap.size, 0, none⟩ = some (.pointer (some ⟨g, 0, none⟩)) := e0.cell 0
  have c13 := e1.row.cell 13
  simp only [tkC, in17, List.getElem?_cons_zero, List.getElem?_cons_succ] at c13
  have K5 := Lib.hid (fun W (hb : Below w1.heap.size w1 W) => (at17_any (T := in17 G) 7 G.slot 0 W (e1.below hb) h.B h.R.2 (hT1.below hb)).mono (R' := fun e w' => e = .returned (.int .i64 A) ∧ Below w1.heap.size w1 w') (fun _ _ ⟨he, hb'⟩ => ⟨by rw [he, ← hA]; rfl, below_on hb hb'⟩))
  have E0 := Lib.hid e0
  have E1 := Lib.hid e1
  have E2 := Lib.hid e2
  have HGD := Lib.hid hgd
  have HD := Lib.hid (fun x (hx : own17 g s vl vg x) (hy : own14 t p a k v x) => hdis x hx (.inl hy))
  clear r h rp hT hdis e0 e1 e2 hgd hst
  have KP := Lib.hid (fun W (hb : Below w1.heap.size w1 W) => (tload14_any A W (rp1.below hb) hl).mono (fun _ _ h => PtP.since hb h))
  have SB : Hid (∀ W, Row W w.heap.size 29 [.pointer (some ⟨g, 0, none⟩)] → KAt W g (in17 G) s vl vg → W.cell? ⟨w.heap.size, 0, none⟩ = some (.pointer (some ⟨g, 0, none⟩)) ∧ W.cell? ⟨g, 13, none⟩ = some (.int .i64 G.slot)) := Lib.hid (fun W q0 q1 => ?sb)
  case sb =>
    have d0 := q0.cell 0
    have d13 := q1.row.cell 13
    simp only [tkC, in17, List.getElem?_cons_zero, List.getElem?_cons_succ] at d13
    exact ⟨d0, d13⟩
  have SN : Hid (∀ W, Below w1.heap.size w1 W → W.cell? ⟨w.heap.size, 0, none⟩ = some (.pointer (some ⟨g, 0, none⟩)) ∧ W.cell? ⟨g, 13, none⟩ = some (.int .i64 G.slot)) := Lib.hid (fun W hb => SB.out W (E0.out.below hb) (E1.out.below hb))
  have SO : Hid (∀ W, Only (own14 t p a k v) w1 W → W.cell? ⟨w.heap.size, 0, none⟩ = some (.pointer (some ⟨g, 0, none⟩)) ∧ W.cell? ⟨g, 13, none⟩ = some (.int .i64 G.slot)) := Lib.hid (fun W ho => SB.out W (E0.out.only ho (fun e => by have := HLT.out _ (.inl e); omega)) (E1.out.only ho (fun x hx hy => HD.out x hx hy)))
  unfold tface14
  go_enter_defers Tryz.func44, Tryz.ntmps44
  go_wp2_with fail
  rw [← hw1]
  clear hw1
  have hS0 := SN.out w1.drew (Below.refl _ _).drew
  have hbd : Below w1.heap.size w1 w1.drew := (Below.refl _ _).drew
  generalize hQ : w.heap.size = Q at *
  go_region_held3 (fun W => W.cell? ⟨Q, 0, none⟩ = some (.pointer (some ⟨g, 0, none⟩)) ∧ W.cell? ⟨g, 13, none⟩ = some (.int .i64 G.slot))
    (first | exact hS0 | exact hS2 | exact hS5 | go_keep)
    (first
      | (go_at_call 113; refine (KP.out _ (by first | assumption)).mono ?_; rintro e w2 ⟨k2, v2, rfl, r2, o2, hk2, hv2⟩; have hS2 := SO.out _ o2)
      | (go_at_call 78; refine (K5.out _ (by first | assumption)).mono ?_; rintro e w5 ⟨rfl, hb5⟩; have hS5 := SN.out _ hb5))
  subst hQ
  all_goals
    go_wp2_with fail
    have G2 := Lib.hid (E1.out.only o2 (fun x hx hy => HD.out x hx hy))
    have T2 := Lib.hid (E0.out.only o2 (fun e => by have := HLT.out _ (.inl e); omega))
    have y0 : w2.cell? ⟨w.heap.size, 0, none⟩ = some (.pointer (some ⟨g, 0, none⟩)) := T2.out.cell 0
    have y7 := G2.out.row.cell 7
    have g7 := G2.out.row.soft 7
    simp only [tkC, in17, List.getElem?_cons_zero, List.getElem?_cons_succ] at y7
    refine leaves_cons (f := 77) (args := #[.pointer (some ⟨w.heap.size, 0, none⟩)]) (by simp) (by simp [go_sem]) ?_
    refine (caught17 w2 y0 y7 g7).mono ?_
    rintro e u' w3 ⟨rfl, rfl, rfl⟩
    simp [Leaves, settle, results, Tryz.results44, go_sem]
    exact endT17 HI.out E2.out G2.out r2 o2 HGD.out hgl (hk2.imp id (fun ⟨x, h1, h2⟩ => ⟨x, h1, by omega⟩)) (hv2.imp id (fun ⟨x, h1, h2⟩ => ⟨x, h1, by omega⟩))
set_option maxRecDepth 100000 in
set_option maxHeartbeats 4000000 in
theorem accT17_s9 (w : World) (r : KAt w g G s vl vg) (h : Acc17 G) (rp : PtAt w t p a b k v V E K T) (hT : TabAt w) (hdis : ∀ x, own17 g s vl vg x → ¬ (own14 t p a k v x ∨ x = b)) (hl : T.length ≤ 65536) (hst : G.st = 9) :
    Calls Tryz.prog 44 #[.pointer (some ⟨g, 0, none⟩), tface14 t] w (AccT17 g G s vl vg t p a b k v V E K (T ++ [(1, ad17 G 8 G.slot (G.load.length : Int), nth14 V (ad17 G 8 G.slot (G.load.length : Int)))]) (nth14 V (ad17 G 8 G.slot (G.load.length : Int))) w) := by
  have hmf : ∀ (fn : Fn) (first cap : Array Value) (w : World), (Instr.makeFunc fn first cap).run Tryz.prog w = .ok (.func fn first cap) w := fun _ _ _ _ => rfl
  obtain ⟨A, hA⟩ : ∃ A, ad17 G 8 G.slot (G.load.length : Int) = A := ⟨_, rfl⟩
  rw [hA]
  obtain ⟨Al, cl, rfl⟩ := own_open14 r.load
  have f7 := r.row.soft 7
  have c7 := r.row.cell 7
  have c6 := r.row.cell 6
  simp only [tkC, List.getElem?_cons_zero, List.getElem?_cons_succ] at c6 c7
  rw [h.ins] at c7
  rw [hst] at c6
  have hgl := r.row.lt
  have HLT := Lib.hid rp.lt
  have HI := Lib.hid h.ins
  obtain ⟨e0, e1, e2⟩ := enter17 w r
  obtain ⟨w1, hw1⟩ : ∃ w1, w1 = (w.setCell ⟨g, 7, none⟩ (.bool true)).alloc (.cells #[.pointer (some ⟨g, 0, none⟩)] 29) := ⟨_, rfl⟩
  rw [← hw1] at e0 e1 e2
  have hsz := e2.size
  have hgd : ∀ x, own14 t p a k v x ∨ x = b → x ≠ g := fun x hx e => hdis g (.inl rfl) (by rw [← e]; exact hx)
  have rp1 := rp.only e2 (fun x hx e => hgd x hx e)
  have hT1 : TabAt w1 := hT.only17 e2 (fun e => tab_ne17 hT r e)
  have z0 : w1.cell? ⟨w.heap.size, 0, none⟩ = some (.pointer (some ⟨g, 0, none⟩)) := e0.cell 0
  have c13 := e1.row.cell 13
  have c15 := e1.row.cell 15
  simp only [tkC, in17, List.getElem?_cons_zero, List.getElem?_cons_succ] at c13 c15
  have K5 := Lib.hid (fun W (hb : Below w1.heap.size w1 W) => (at17_any (T := in17 G) 8 G.slot (G.load.length : Int) W (e1.below hb) h.B h.R.2 (hT1.below hb)).mono (R' := fun e w' => e = .returned (.int .i64 A) ∧ Below w1.heap.size w1 w') (fun _ _ ⟨he, hb'⟩ => ⟨by rw [he, ← hA]; rfl, below_on hb hb'⟩))
  have E0 := Lib.hid e0
  have E1 := Lib.hid e1
  have E2 := Lib.hid e2
  have HGD := Lib.hid hgd
  have HD := Lib.hid (fun x (hx : own17 g s (.slice Al G.load.length cl) vg x) (hy : own14 t p a k v x) => hdis x hx (.inl hy))
  clear r h rp hT hdis e0 e1 e2 hgd hst
  have KP := Lib.hid (fun W (hb : Below w1.heap.size w1 W) => (tload14_any A W (rp1.below hb) hl).mono (fun _ _ h => PtP.since hb h))
  have SB : Hid (∀ W, Row W w.heap.size 29 [.pointer (some ⟨g, 0, none⟩)] → KAt W g (in17 G) s (.slice Al G.load.length cl) vg → W.cell? ⟨w.heap.size, 0, none⟩ = some (.pointer (some ⟨g, 0, none⟩)) ∧ W.cell? ⟨g, 13, none⟩ = some (.int .i64 G.slot) ∧ W.cell? ⟨g, 15, none⟩ = some (.slice Al G.load.length cl)) := Lib.hid (fun W q0 q1 => ?sb)
  case sb =>
    have d0 := q0.cell 0
    have d13 := q1.row.cell 13
    have d15 := q1.row.cell 15
    simp only [tkC, in17, List.getElem?_cons_zero, List.getElem?_cons_succ] at d13 d15
    exact ⟨d0, d13, d15⟩
  have SN : Hid (∀ W, Below w1.heap.size w1 W → W.cell? ⟨w.heap.size, 0, none⟩ = some (.pointer (some ⟨g, 0, none⟩)) ∧ W.cell? ⟨g, 13, none⟩ = some (.int .i64 G.slot) ∧ W.cell? ⟨g, 15, none⟩ = some (.slice Al G.load.length cl)) := Lib.hid (fun W hb => SB.out W (E0.out.below hb) (E1.out.below hb))
  have SO : Hid (∀ W, Only (own14 t p a k v) w1 W → W.cell? ⟨w.heap.size, 0, none⟩ = some (.pointer (some ⟨g, 0, none⟩)) ∧ W.cell? ⟨g, 13, none⟩ = some (.int .i64 G.slot) ∧ W.cell? ⟨g, 15, none⟩ = some (.slice Al G.load.length cl)) := Lib.hid (fun W ho => SB.out W (E0.out.only ho (fun e => by have := HLT.out _ (.inl e); omega)) (E1.out.only ho (fun x hx hy => HD.out x hx hy)))
  unfold tface14
  go_enter_defers Tryz.func44, Tryz.ntmps44
  go_wp2_with fail
  rw [← hw1]
  clear hw1
  have hS0 := SN.out w1.drew (Below.refl _ _).drew
  have hbd : Below w1.heap.size w1 w1.drew := (Below.refl _ _).drew
  generalize hQ : w.heap.size = Q at *
  go_region_held3 (fun W => W.cell? ⟨Q, 0, none⟩ = some (.pointer (some ⟨g, 0, none⟩)) ∧ W.cell? ⟨g, 13, none⟩ = some (.int .i64 G.slot) ∧ W.cell? ⟨g, 15, none⟩ = some (.slice Al G.load.length cl))
    (first | exact hS0 | exact hS2 | exact hS5 | go_keep)
    (first
      | (go_at_call 113; refine (KP.out _ (by first | assumption)).mono ?_; rintro e w2 ⟨k2, v2, rfl, r2, o2, hk2, hv2⟩; have hS2 := SO.out _ o2)
      | (go_at_call 78; refine (K5.out _ (by first | assumption)).mono ?_; rintro e w5 ⟨rfl, hb5⟩; have hS5 := SN.out _ hb5))
  subst hQ
  all_goals
    go_wp2_with fail
    have G2 := Lib.hid (E1.out.only o2 (fun x hx hy => HD.out x hx hy))
    have T2 := Lib.hid (E0.out.only o2 (fun e => by have := HLT.out _ (.inl e); omega))
    have y0 : w2.cell? ⟨w.heap.size, 0, none⟩ = some (.pointer (some ⟨g, 0, none⟩)) := T2.out.cell 0
    have y7 := G2.out.row.cell 7
    have g7 := G2.out.row.soft 7
    simp only [tkC, in17, List.getElem?_cons_zero, List.getElem?_cons_succ] at y7
    refine leaves_cons (f := 77) (args := #[.pointer (some ⟨w.heap.size, 0, none⟩)]) (by simp) (by simp [go_sem]) ?_
    refine (caught17 w2 y0 y7 g7).mono ?_
    rintro e u' w3 ⟨rfl, rfl, rfl⟩
    simp [Leaves, settle, results, Tryz.results44, go_sem]
    exact endT17 HI.out E2.out G2.out r2 o2 HGD.out hgl (hk2.imp id (fun ⟨x, h1, h2⟩ => ⟨x, h1, by omega⟩)) (hv2.imp id (fun ⟨x, h1, h2⟩ => ⟨x, h1, by omega⟩))
set_option maxRecDepth 100000 in
set_option maxHeartbeats 4000000 in
theorem accT17_s10 (w : World) (r : KAt w g G s vl vg) (h : Acc17 G) (rp : PtAt w t p a b k v V E K T) (hT : TabAt w) (hdis : ∀ x, own17 g s vl vg x → ¬ (own14 t p a k v x ∨ x = b)) (hl : T.length ≤ 65536) (hst : G.st = 10) :
    Calls Tryz.prog 44 #[.pointer (some ⟨g, 0, none⟩), tface14 t] w (AccT17 g G s vl vg t p a b k v (put14 V (ad17 G 6 (G.used % (G.R : Int)) 0) ((G.slot) % 65536)) E K (T ++ [(2, ad17 G 6 (G.used % (G.R : Int)) 0, G.slot)]) 0 w) := by
  have hmf : ∀ (fn : Fn) (first cap : Array Value) (w : World), (Instr.makeFunc fn first cap).run Tryz.prog w = .ok (.func fn first cap) w := fun _ _ _ _ => rfl
  obtain ⟨m, hm⟩ : ∃ m, G.used % (G.R : Int) = m := ⟨_, rfl⟩
  have hm0 : 0 ≤ m ∧ m < 64 := by
    have h1 := Int.emod_nonneg G.used (show (G.R : Int) ≠ 0 by have := h.R; omega)
    have h2 := Int.emod_lt_of_pos G.used (show (0 : Int) < (G.R : Int) by have := h.R; omega)
    have := h.R
    omega
  have hmt : G.used.tmod (G.R : Int) = m := by rw [Int.tmod_eq_emod_of_nonneg h.used.1]; exact hm
  have hmw : wrap64 m = m := by rw [← IntWalk.i64_left, IntWalk.i64_in _ (by omega)]
  have hR0 : (G.R : Int) ≠ 0 := by have := h.R; omega
  have hR1 : ¬ G.R = 0 := by have := h.R; omega
  rw [hm]
  obtain ⟨A, hA⟩ : ∃ A, ad17 G 6 m 0 = A := ⟨_, rfl⟩
  rw [hA]
  have f7 := r.row.soft 7
  have c7 := r.row.cell 7
  have c6 := r.row.cell 6
  simp only [tkC, List.getElem?_cons_zero, List.getElem?_cons_succ] at c6 c7
  rw [h.ins] at c7
  rw [hst] at c6
  have hgl := r.row.lt
  have HLT := Lib.hid rp.lt
  have HI := Lib.hid h.ins
  obtain ⟨e0, e1, e2⟩ := enter17 w r
  obtain ⟨w1, hw1⟩ : ∃ w1, w1 = (w.setCell ⟨g, 7, none⟩ (.bool true)).alloc (.cells #[.pointer (some ⟨g, 0, none⟩)] 29) := ⟨_, rfl⟩
  rw [← hw1] at e0 e1 e2
  have hsz := e2.size
  have hgd : ∀ x, own14 t p a k v x ∨ x = b → x ≠ g := fun x hx e => hdis g (.inl rfl) (by rw [← e]; exact hx)
  have rp1 := rp.only e2 (fun x hx e => hgd x hx e)
  have hT1 : TabAt w1 := hT.only17 e2 (fun e => tab_ne17 hT r e)
  have z0 : w1.cell? ⟨w.heap.size, 0, none⟩ = some (.pointer (some ⟨g, 0, none⟩)) := e0.cell 0
  have c1 := e1.row.cell 1
  have c11 := e1.row.cell 11
  have c13 := e1.row.cell 13
  simp only [tkC, in17, List.getElem?_cons_zero, List.getElem?_cons_succ] at c1 c11 c13
  have K5 := Lib.hid (fun W (hb : Below w1.heap.size w1 W) => (at17_any (T := in17 G) 6 m 0 W (e1.below hb) h.B h.R.2 (hT1.below hb)).mono (R' := fun e w' => e = .returned (.int .i64 A) ∧ Below w1.heap.size w1 w') (fun _ _ ⟨he, hb'⟩ => ⟨by rw [he, ← hA]; rfl, below_on hb hb'⟩))
  have E0 := Lib.hid e0
  have E1 := Lib.hid e1
  have E2 := Lib.hid e2
  have HGD := Lib.hid hgd
  have HD := Lib.hid (fun x (hx : own17 g s vl vg x) (hy : own14 t p a k v x) => hdis x hx (.inl hy))
  clear r h rp hT hdis e0 e1 e2 hgd hst
  have KP := Lib.hid (fun W (hb : Below w1.heap.size w1 W) => (tstore14_any A G.slot W (rp1.below hb) hl).mono (fun _ _ h => PtP.since hb h))
  have SB : Hid (∀ W, Row W w.heap.size 29 [.pointer (some ⟨g, 0, none⟩)] → KAt W g (in17 G) s vl vg → W.cell? ⟨w.heap.size, 0, none⟩ = some (.pointer (some ⟨g, 0, none⟩)) ∧ W.cell? ⟨g, 1, none⟩ = some (.int .i64 (G.R : Int)) ∧ W.cell? ⟨g, 11, none⟩ = some (.int .i64 G.used) ∧ W.cell? ⟨g, 13, none⟩ = some (.int .i64 G.slot)) := Lib.hid (fun W q0 q1 => ?sb)
  case sb =>
    have d0 := q0.cell 0
    have d1 := q1.row.cell 1
    have d11 := q1.row.cell 11
    have d13 := q1.row.cell 13
    simp only [tkC, in17, List.getElem?_cons_zero, List.getElem?_cons_succ] at d1 d11 d13
    exact ⟨d0, d1, d11, d13⟩
  have SN : Hid (∀ W, Below w1.heap.size w1 W → W.cell? ⟨w.heap.size, 0, none⟩ = some (.pointer (some ⟨g, 0, none⟩)) ∧ W.cell? ⟨g, 1, none⟩ = some (.int .i64 (G.R : Int)) ∧ W.cell? ⟨g, 11, none⟩ = some (.int .i64 G.used) ∧ W.cell? ⟨g, 13, none⟩ = some (.int .i64 G.slot)) := Lib.hid (fun W hb => SB.out W (E0.out.below hb) (E1.out.below hb))
  have SO : Hid (∀ W, Only (own14 t p a k v) w1 W → W.cell? ⟨w.heap.size, 0, none⟩ = some (.pointer (some ⟨g, 0, none⟩)) ∧ W.cell? ⟨g, 1, none⟩ = some (.int .i64 (G.R : Int)) ∧ W.cell? ⟨g, 11, none⟩ = some (.int .i64 G.used) ∧ W.cell? ⟨g, 13, none⟩ = some (.int .i64 G.slot)) := Lib.hid (fun W ho => SB.out W (E0.out.only ho (fun e => by have := HLT.out _ (.inl e); omega)) (E1.out.only ho (fun x hx hy => HD.out x hx hy)))
  unfold tface14
  go_enter_defers Tryz.func44, Tryz.ntmps44
  go_wp2_with fail
  rw [← hw1]
  clear hw1
  have hS0 := SN.out w1.drew (Below.refl _ _).drew
  have hbd : Below w1.heap.size w1 w1.drew := (Below.refl _ _).drew
  generalize hQ : w.heap.size = Q at *
  go_region_held3 (fun W => W.cell? ⟨Q, 0, none⟩ = some (.pointer (some ⟨g, 0, none⟩)) ∧ W.cell? ⟨g, 1, none⟩ = some (.int .i64 (G.R : Int)) ∧ W.cell? ⟨g, 11, none⟩ = some (.int .i64 G.used) ∧ W.cell? ⟨g, 13, none⟩ = some (.int .i64 G.slot))
    (first | exact hS0 | exact hS2 | exact hS5 | go_keep)
    (first
      | (go_at_call 114; refine (KP.out _ (by first | assumption)).mono ?_; rintro e w2 ⟨k2, v2, rfl, r2, o2, hk2, hv2⟩; have hS2 := SO.out _ o2)
      | (go_at_call 78; refine (K5.out _ (by first | assumption)).mono ?_; rintro e w5 ⟨rfl, hb5⟩; have hS5 := SN.out _ hb5))
  subst hQ
  all_goals
    go_wp2_with fail
    have G2 := Lib.hid (E1.out.only o2 (fun x hx hy => HD.out x hx hy))
    have T2 := Lib.hid (E0.out.only o2 (fun e => by have := HLT.out _ (.inl e); omega))
    have y0 : w2.cell? ⟨w.heap.size, 0, none⟩ = some (.pointer (some ⟨g, 0, none⟩)) := T2.out.cell 0
    have y7 := G2.out.row.cell 7
    have g7 := G2.out.row.soft 7
    simp only [tkC, in17, List.getElem?_cons_zero, List.getElem?_cons_succ] at y7
    refine leaves_cons (f := 77) (args := #[.pointer (some ⟨w.heap.size, 0, none⟩)]) (by simp) (by simp [go_sem]) ?_
    refine (caught17 w2 y0 y7 g7).mono ?_
    rintro e u' w3 ⟨rfl, rfl, rfl⟩
    simp [Leaves, settle, results, Tryz.results44, go_sem]
    exact endT17 HI.out E2.out G2.out r2 o2 HGD.out hgl (hk2.imp id (fun ⟨x, h1, h2⟩ => ⟨x, h1, by omega⟩)) (hv2.imp id (fun ⟨x, h1, h2⟩ => ⟨x, h1, by omega⟩))
set_option maxRecDepth 100000 in
set_option maxHeartbeats 4000000 in
theorem accT17_s12 (w : World) (r : KAt w g G s vl vg) (h : Acc17 G) (rp : PtAt w t p a b k v V E K T) (hT : TabAt w) (hdis : ∀ x, own17 g s vl vg x → ¬ (own14 t p a k v x ∨ x = b)) (hl : T.length ≤ 65536) (hst : G.st = 12) :
    Calls Tryz.prog 44 #[.pointer (some ⟨g, 0, none⟩), tface14 t] w (AccT17 g G s vl vg t p a b k v (put14 V (ad17 G 4 0 0) ((addW G.used 1) % 65536)) E K (T ++ [(2, ad17 G 4 0 0, addW G.used 1)]) 0 w) := by
  have hmf : ∀ (fn : Fn) (first cap : Array Value) (w : World), (Instr.makeFunc fn first cap).run Tryz.prog w = .ok (.func fn first cap) w := fun _ _ _ _ => rfl
  obtain ⟨U, hU⟩ : ∃ A, addW G.used 1 = A := ⟨_, rfl⟩
  rw [hU]
  obtain ⟨A, hA⟩ : ∃ A, ad17 G 4 0 0 = A := ⟨_, rfl⟩
  rw [hA]
  have f7 := r.row.soft 7
  have c7 := r.row.cell 7
  have c6 := r.row.cell 6
  simp only [tkC, List.getElem?_cons_zero, List.getElem?_cons_succ] at c6 c7
  rw [h.ins] at c7
  rw [hst] at c6
  have hgl := r.row.lt
  have HLT := Lib.hid rp.lt
  have HI := Lib.hid h.ins
  obtain ⟨e0, e1, e2⟩ := enter17 w r
  obtain ⟨w1, hw1⟩ : ∃ w1, w1 = (w.setCell ⟨g, 7, none⟩ (.bool true)).alloc (.cells #[.pointer (some ⟨g, 0, none⟩)] 29) := ⟨_, rfl⟩
  rw [← hw1] at e0 e1 e2
  have hsz := e2.size
  have hgd : ∀ x, own14 t p a k v x ∨ x = b → x ≠ g := fun x hx e => hdis g (.inl rfl) (by rw [← e]; exact hx)
  have rp1 := rp.only e2 (fun x hx e => hgd x hx e)
  have hT1 : TabAt w1 := hT.only17 e2 (fun e => tab_ne17 hT r e)
  have z0 : w1.cell? ⟨w.heap.size, 0, none⟩ = some (.pointer (some ⟨g, 0, none⟩)) := e0.cell 0
  have c11 := e1.row.cell 11
  simp only [tkC, in17, List.getElem?_cons_zero, List.getElem?_cons_succ] at c11
  have K5 := Lib.hid (fun W (hb : Below w1.heap.size w1 W) => (at17_any (T := in17 G) 4 0 0 W (e1.below hb) h.B h.R.2 (hT1.below hb)).mono (R' := fun e w' => e = .returned (.int .i64 A) ∧ Below w1.heap.size w1 w') (fun _ _ ⟨he, hb'⟩ => ⟨by rw [he, ← hA]; rfl, below_on hb hb'⟩))
  have K6 := Lib.hid (fun W (hb : Below w1.heap.size w1 W) => (add_any G.used 1 W).mono (R' := fun e w' => e = .returned (.int .i64 U) ∧ Below w1.heap.size w1 w') (fun _ _ ⟨he, hw⟩ => ⟨by rw [he, ← hU], by rw [← hw]; exact hb⟩))
  have E0 := Lib.hid e0
  have E1 := Lib.hid e1
  have E2 := Lib.hid e2
  have HGD := Lib.hid hgd
  have HD := Lib.hid (fun x (hx : own17 g s vl vg x) (hy : own14 t p a k v x) => hdis x hx (.inl hy))
  clear r h rp hT hdis e0 e1 e2 hgd hst
  have KP := Lib.hid (fun W (hb : Below w1.heap.size w1 W) => (tstore14_any A U W (rp1.below hb) hl).mono (fun _ _ h => PtP.since hb h))
  have SB : Hid (∀ W, Row W w.heap.size 29 [.pointer (some ⟨g, 0, none⟩)] → KAt W g (in17 G) s vl vg → W.cell? ⟨w.heap.size, 0, none⟩ = some (.pointer (some ⟨g, 0, none⟩)) ∧ W.cell? ⟨g, 11, none⟩ = some (.int .i64 G.used)) := Lib.hid (fun W q0 q1 => ?sb)
  case sb =>
    have d0 := q0.cell 0
    have d11 := q1.row.cell 11
    simp only [tkC, in17, List.getElem?_cons_zero, List.getElem?_cons_succ] at d11
    exact ⟨d0, d11⟩
  have SN : Hid (∀ W, Below w1.heap.size w1 W → W.cell? ⟨w.heap.size, 0, none⟩ = some (.pointer (some ⟨g, 0, none⟩)) ∧ W.cell? ⟨g, 11, none⟩ = some (.int .i64 G.used)) := Lib.hid (fun W hb => SB.out W (E0.out.below hb) (E1.out.below hb))
  have SO : Hid (∀ W, Only (own14 t p a k v) w1 W → W.cell? ⟨w.heap.size, 0, none⟩ = some (.pointer (some ⟨g, 0, none⟩)) ∧ W.cell? ⟨g, 11, none⟩ = some (.int .i64 G.used)) := Lib.hid (fun W ho => SB.out W (E0.out.only ho (fun e => by have := HLT.out _ (.inl e); omega)) (E1.out.only ho (fun x hx hy => HD.out x hx hy)))
  unfold tface14
  go_enter_defers Tryz.func44, Tryz.ntmps44
  go_wp2_with fail
  rw [← hw1]
  clear hw1
  have hS0 := SN.out w1.drew (Below.refl _ _).drew
  have hbd : Below w1.heap.size w1 w1.drew := (Below.refl _ _).drew
  generalize hQ : w.heap.size = Q at *
  go_region_held3 (fun W => W.cell? ⟨Q, 0, none⟩ = some (.pointer (some ⟨g, 0, none⟩)) ∧ W.cell? ⟨g, 11, none⟩ = some (.int .i64 G.used))
    (first | exact hS0 | exact hS2 | exact hS5 | exact hS6 | go_keep)
    (first
      | (go_at_call 114; refine (KP.out _ (by first | assumption)).mono ?_; rintro e w2 ⟨k2, v2, rfl, r2, o2, hk2, hv2⟩; have hS2 := SO.out _ o2)
      | (go_at_call 78; refine (K5.out _ (by first | assumption)).mono ?_; rintro e w5 ⟨rfl, hb5⟩; have hS5 := SN.out _ hb5)
      | (go_at_call 79; refine (K6.out _ (by first | assumption)).mono ?_; rintro e w6 ⟨rfl, hb6⟩; have hS6 := SN.out _ hb6))
  subst hQ
  all_goals
    go_wp2_with fail
    have G2 := Lib.hid (E1.out.only o2 (fun x hx hy => HD.out x hx hy))
    have T2 := Lib.hid (E0.out.only o2 (fun e => by have := HLT.out _ (.inl e); omega))
    have y0 : w2.cell? ⟨w.heap.size, 0, none⟩ = some (.pointer (some ⟨g, 0, none⟩)) := T2.out.cell 0
    have y7 := G2.out.row.cell 7
    have g7 := G2.out.row.soft 7
    simp only [tkC, in17, List.getElem?_cons_zero, List.getElem?_cons_succ] at y7
    refine leaves_cons (f := 77) (args := #[.pointer (some ⟨w.heap.size, 0, none⟩)]) (by simp) (by simp [go_sem]) ?_
    refine (caught17 w2 y0 y7 g7).mono ?_
    rintro e u' w3 ⟨rfl, rfl, rfl⟩
    simp [Leaves, settle, results, Tryz.results44, go_sem]
    exact endT17 HI.out E2.out G2.out r2 o2 HGD.out hgl (hk2.imp id (fun ⟨x, h1, h2⟩ => ⟨x, h1, by omega⟩)) (hv2.imp id (fun ⟨x, h1, h2⟩ => ⟨x, h1, by omega⟩))
/-- The word, the kicks and the list that an access makes, and what it reads. -/
def aV17 (V : List Int) (x : Tch) : List Int := dV14 V x.1 x.2.1 x.2.2
def aK17 (K : List Int) (x : Tch) : List Int := dK14 K x.1 x.2.1
def aT17 (V E : List Int) (x : Tch) : List Tch := dT14 V E x.1 x.2.1 x.2.2
def aN17 (V E : List Int) (x : Tch) : Int := dN14 V E x.1 x.2.1
theorem accT17_any (w : World) (r : KAt w g G s vl vg) (h : Acc17 G) (rp : PtAt w t p a b k v V E K T) (hT : TabAt w) (hdis : ∀ x, own17 g s vl vg x → ¬ (own14 t p a k v x ∨ x = b)) (hl : T.length ≤ 65536) (hst : 1 ≤ G.st ∧ G.st ≤ 14) :
    Calls Tryz.prog 44 #[.pointer (some ⟨g, 0, none⟩), tface14 t] w (AccT17 g G s vl vg t p a b k v (aV17 V (tch17 G)) E (aK17 K (tch17 G)) (T ++ aT17 V E (tch17 G)) (aN17 V E (tch17 G)) w) := by
  have : G.st = 1 ∨ G.st = 2 ∨ G.st = 3 ∨ G.st = 4 ∨ G.st = 5 ∨ G.st = 6 ∨ G.st = 7 ∨ G.st = 8 ∨ G.st = 9 ∨ G.st = 10 ∨ G.st = 11 ∨ G.st = 12 ∨ G.st = 13 ∨ G.st = 14 := by omega
  rcases this with e | e | e | e | e | e | e | e | e | e | e | e | e | e
  · have := accT17_s1 w r h rp hT hdis hl e
    unfold tch17 aV17 aK17 aT17 aN17
    simpa [e, dV14, dK14, dT14, dN14] using this
  · have := accT17_s2 w r h rp hT hdis hl e
    unfold tch17 aV17 aK17 aT17 aN17
    simpa [e, dV14, dK14, dT14, dN14] using this
  · have := accT17_s3 w r h rp hT hdis hl e
    unfold tch17 aV17 aK17 aT17 aN17
    simpa [e, dV14, dK14, dT14, dN14] using this
  · have := accT17_s4 w r h rp hT hdis hl e
    unfold tch17 aV17 aK17 aT17 aN17
    simpa [e, dV14, dK14, dT14, dN14] using this
  · have := accT17_s5 w r h rp hT hdis hl e
    unfold tch17 aV17 aK17 aT17 aN17
    simpa [e, dV14, dK14, dT14, dN14] using this
  · have := accT17_s6 w r h rp hT hdis hl e
    unfold tch17 aV17 aK17 aT17 aN17
    simpa [e, dV14, dK14, dT14, dN14] using this
  · have := accT17_s7 w r h rp hT hdis hl e
    unfold tch17 aV17 aK17 aT17 aN17
    simpa [e, dV14, dK14, dT14, dN14] using this
  · have := accT17_s8 w r h rp hT hdis hl e
    unfold tch17 aV17 aK17 aT17 aN17
    simpa [e, dV14, dK14, dT14, dN14] using this
  · have := accT17_s9 w r h rp hT hdis hl e
    unfold tch17 aV17 aK17 aT17 aN17
    simpa [e, dV14, dK14, dT14, dN14] using this
  · have := accT17_s10 w r h rp hT hdis hl e
    unfold tch17 aV17 aK17 aT17 aN17
    simpa [e, dV14, dK14, dT14, dN14] using this
  · have := accT17_s11 w r h rp hT hdis hl e
    unfold tch17 aV17 aK17 aT17 aN17
    simpa [e, dV14, dK14, dT14, dN14] using this
  · have := accT17_s12 w r h rp hT hdis hl e
    unfold tch17 aV17 aK17 aT17 aN17
    simpa [e, dV14, dK14, dT14, dN14] using this
  · have := accT17_s13 w r h rp hT hdis hl e
    unfold tch17 aV17 aK17 aT17 aN17
    simpa [e, dV14, dK14, dT14, dN14] using this
  · have := accT17_s14 w r h rp hT hdis hl e
    unfold tch17 aV17 aK17 aT17 aN17
    simpa [e, dV14, dK14, dT14, dN14] using this
end
end

section
open Go.ChangeShapes Go.WideShapes Go.ChangeAt Go.RowKit
/-- A taker alone; its blocks are among those that U allows. -/
def KIs (w : World) (U : Nat → Prop) (g : Nat) (G : Tk) : Prop := ∃ s vl vg, KAt w g G s vl vg ∧ ∀ x, own17 g s vl vg x → U x
/-- A taker, and a Trace that forwards to a Plain; their blocks are among those that U allows. -/
def Sys17 (w : World) (U : Nat → Prop) (g t p : Nat) (G : Tk) (V E K : List Int) (T : List Tch) : Prop :=
  ∃ s vl vg a b k v, KAt w g G s vl vg ∧ PtAt w t p a b k v V E K T ∧ (∀ x, own17 g s vl vg x → ¬ (own14 t p a k v x ∨ x = b)) ∧ (∀ x, own17 g s vl vg x → U x) ∧ ∀ x, own14 t p a k v x ∨ x = b → U x
section
variable {U : Nat → Prop} {g t p : Nat} {G : Tk} {V E K : List Int} {T : List Tch} {w w' : World}
theorem KIs.weak {U' : Nat → Prop} (y : KIs w U g G) (h : ∀ x, x < w.heap.size → U x → U' x) : KIs w U' g G := by
  obtain ⟨s, vl, vg, r, hU⟩ := y
  exact ⟨s, vl, vg, r, fun x hx => h x (own17_lt r.toKAtW hx) (hU x hx)⟩
theorem KIs.only {S : Nat → Prop} (y : KIs w U g G) (ho : Only S w w') (hS : ∀ x, x < w.heap.size → U x → ¬ S x) : KIs w' U g G := by
  obtain ⟨s, vl, vg, r, hU⟩ := y
  exact ⟨s, vl, vg, r.only ho (fun x hx => hS x (own17_lt r.toKAtW hx) (hU x hx)), hU⟩
theorem KIs.below (y : KIs w U g G) (hb : Below w.heap.size w w') : KIs w' U g G := y.only (Only.of_below hb (fun _ => False)) (fun _ _ _ h => h)
theorem Sys17.weak {U' : Nat → Prop} (y : Sys17 w U g t p G V E K T) (h : ∀ x, x < w.heap.size → U x → U' x) : Sys17 w U' g t p G V E K T := by
  obtain ⟨s, vl, vg, a, b, k, v, r, rp, hd, h1, h2⟩ := y
  exact ⟨s, vl, vg, a, b, k, v, r, rp, hd, fun x hx => h x (own17_lt r.toKAtW hx) (h1 x hx), fun x hx => h x (rp.lt x hx) (h2 x hx)⟩
theorem Sys17.only {S : Nat → Prop} (y : Sys17 w U g t p G V E K T) (ho : Only S w w') (hS : ∀ x, x < w.heap.size → U x → ¬ S x) : Sys17 w' U g t p G V E K T := by
  obtain ⟨s, vl, vg, a, b, k, v, r, rp, hd, h1, h2⟩ := y
  exact ⟨s, vl, vg, a, b, k, v, r.only ho (fun x hx => hS x (own17_lt r.toKAtW hx) (h1 x hx)), rp.only ho (fun x hx => hS x (rp.lt x hx) (h2 x hx)), hd, h1, h2⟩
theorem Sys17.below (y : Sys17 w U g t p G V E K T) (hb : Below w.heap.size w w') : Sys17 w' U g t p G V E K T := y.only (Only.of_below hb (fun _ => False)) (fun _ _ _ h => h)
theorem Sys17.gis (y : Sys17 w U g t p G V E K T) : KIs w U g G := by
  obtain ⟨s, vl, vg, a, b, k, v, r, rp, hd, h1, h2⟩ := y
  exact ⟨s, vl, vg, r, h1⟩
/-- A taker and a port that is newer. -/
theorem sys17_of {a b : Nat} {k v : Value} {w0 : World} (y : KIs w0 U g G) (hb : Below w0.heap.size w0 w) (rp : PtAt w t p a b k v V E K T) (hn : ∀ x, own14 t p a k v x ∨ x = b → w0.heap.size ≤ x) : Sys17 w (fun x => U x ∨ w0.heap.size ≤ x) g t p G V E K T := by
  obtain ⟨s, vl, vg, r, hU⟩ := y
  exact ⟨s, vl, vg, a, b, k, v, r.below hb, rp, fun x hx hy => by have := own17_lt r.toKAtW hx; have := hn x hy; omega, fun x hx => .inl (hU x hx), fun x hx => .inr (hn x hx)⟩
/-- Behind a call of the taker alone. -/
theorem kis_of {s : Nat} {vl vg ans : Value} {e : Ending} {G' : Tk} (hU : ∀ x, own17 g s vl vg x → U x) (h : KP17 g s G' vl vg ans w e w') : e = .returned ans ∧ KIs w' (fun x => U x ∨ w.heap.size ≤ x) g G' ∧ Only U w w' := by
  obtain ⟨vl', vg', he, r, o, n⟩ := h
  exact ⟨he, ⟨s, vl', vg', r, fun x hx => (n x hx).imp (hU x) id⟩, o.mono (fun x _ hx => hU x hx)⟩
theorem recvS17 (w : World) (y : KIs w U g G) :
    Calls Tryz.prog 12 #[.pointer (some ⟨g, 0, none⟩)] w fun e w' => e = .returned (.int .i64 (recE17 G)) ∧ KIs w' (fun x => U x ∨ w.heap.size ≤ x) g (recT17 G) ∧ Only U w w' := by
  obtain ⟨s, vl, vg, r, hU⟩ := y
  exact (recv17_any w r).mono fun _ _ h => kis_of hU h
theorem releaseS17 (h : Int) (w : World) (y : KIs w U g G) :
    Calls Tryz.prog 15 #[.pointer (some ⟨g, 0, none⟩), .int .i64 h] w fun e w' => e = .returned (.int .i64 (relE17 G h)) ∧ KIs w' (fun x => U x ∨ w.heap.size ≤ x) g (relT17 G h) ∧ Only U w w' := by
  obtain ⟨s, vl, vg, r, hU⟩ := y
  exact (release17_any h w r).mono fun _ _ h => kis_of hU h
set_option maxRecDepth 100000 in
set_option maxHeartbeats 400000 in
theorem step17_idle (v : Value) (w : World) (y : KIs w U g G) (h0 : G.st = 0) : Calls Tryz.prog 21 #[.pointer (some ⟨g, 0, none⟩), v] w fun e w' => e = .returned (.tuple #[.bool true, .int .i64 13]) ∧ w = w' := by
  obtain ⟨s, vl, vg, r, hU⟩ := y
  have KB := Lib.hid (busy17_any w r)
  rw [h0] at KB
  clear r hU h0
  go_enter Tryz.func21, Tryz.ntmps21
  go_wp2_with fail
  refine KB.out.mono ?_
  rintro e w' ⟨rfl, rfl⟩
  go_wp2
  go_ret2
  exact ⟨rfl, rfl⟩
set_option maxRecDepth 100000 in
set_option maxHeartbeats 1000000 in
theorem stepT17 (w : World) (y : Sys17 w U g t p G V E K T) (hA : Acc17 G) (hF : Fit17 G) (hT : TabAt w) (hl : T.length ≤ 65536) :
    Calls Tryz.prog 21 #[.pointer (some ⟨g, 0, none⟩), tface14 t] w fun e w' => e = .returned (ansV17 (aft17 G (aN17 V E (tch17 G))).2) ∧ Sys17 w' (fun x => U x ∨ w.heap.size ≤ x) g t p ((aft17 G (aN17 V E (tch17 G))).1) (aV17 V (tch17 G)) E (aK17 K (tch17 G)) (T ++ aT17 V E (tch17 G)) ∧ Only U w w' := by
  obtain ⟨s, vl, vg, a, b, k, v, r, rp, hd, hu1, hu2⟩ := y
  obtain ⟨h1, h14⟩ := hF.st
  have KB := Lib.hid (busy17_any w r)
  have e0 : ((G.st : Int) != 0) = true := by simp; omega
  rw [e0] at KB
  have KA := Lib.hid (accT17_any w r hA rp hT hd hl ⟨h1, h14⟩)
  obtain ⟨n, hn⟩ : ∃ n, aN17 V E (tch17 G) = n := ⟨_, rfl⟩
  rw [hn] at KA ⊢
  have c7 := r.row.cell 7
  simp only [tkC, List.getElem?_cons_zero, List.getElem?_cons_succ] at c7
  rw [hA.ins] at c7
  have HF := Lib.hid hF
  have HL := Lib.hid (fun x (hx : own17 g s vl vg x) => own17_lt r.toKAtW hx)
  have HD := Lib.hid hd
  have HU1 := Lib.hid hu1
  have HU2 := Lib.hid hu2
  have HG := Lib.hid r.row.lt
  clear r rp hd hu1 hu2 hA hF hT hn e0 h1 h14 hl
  unfold tface14 at *
  go_enter Tryz.func21, Tryz.ntmps21
  go_wp2_with fail
  refine KB.out.mono ?_
  rintro e w' ⟨rfl, rfl⟩
  go_wp2_with fail
  refine KA.out.mono ?_
  rintro e w2 ⟨k2, v2, rfl, r2, rp2, o2, hk2, hv2⟩
  have KF := Lib.hid (fol17_any n w2 r2 HF.out)
  unfold ansV17 at KF
  have RP2 := Lib.hid rp2
  have O2 := Lib.hid o2
  have HK2 := Lib.hid hk2
  have HV2 := Lib.hid hv2
  clear r2 rp2 o2 hk2 hv2
  go_wp2_with fail
  refine KF.out.mono ?_
  rintro e w3 ⟨vl3, vg3, rfl, r3, o3, n3⟩
  have R3 := Lib.hid r3
  have O3 := Lib.hid o3
  have N3 := Lib.hid n3
  clear r3 o3 n3
  go_wp2
  go_ret2
  have hs2 := O2.out.size
  have hout : ∀ x, own14 t p a k2 v2 x ∨ x = b → (own14 t p a k v x ∨ x = b) ∨ w.heap.size ≤ x := by
    rintro x (hx | hx)
    · rcases hx with hx | hx | hx | hx | hx
      · exact .inl (.inl (.inl hx))
      · exact .inl (.inl (.inr (.inl hx)))
      · exact .inl (.inl (.inr (.inr (.inl hx))))
      · rcases HK2.out with h | ⟨y, h, hy⟩
        · exact .inl (.inl (.inr (.inr (.inr (.inl (by rw [← h]; exact hx))))))
        · rw [hx] at h; injection h with h; exact .inr (by omega)
      · rcases HV2.out with h | ⟨y, h, hy⟩
        · exact .inl (.inl (.inr (.inr (.inr (.inr (by rw [← h]; exact hx))))))
        · rw [hx] at h; injection h with h; exact .inr (by omega)
    · exact .inl (.inr hx)
  refine ⟨rfl, ⟨s, vl3, vg3, a, b, k2, v2, R3.out, RP2.out.only O3.out (fun x hx hy => ?_), fun x hx hy => ?_, fun x hx => ?_, fun x hx => ?_⟩, (O2.out.mono (fun x _ hx => ?_)).trans (O3.out.mono (fun x _ hx => HU1.out x hx))⟩
  · rcases hout x hx with h | h
    · exact HD.out x hy h
    · have := HL.out x hy; omega
  · have hlt := RP2.out.lt x hy
    rcases N3.out x hx with h | h
    · rcases hout x hy with h' | h'
      · exact HD.out x h h'
      · have := HL.out x h; omega
    · omega
  · rcases N3.out x hx with h | h
    · exact .inl (HU1.out x h)
    · exact .inr (by omega)
  · rcases hout x hx with h | h
    · exact .inl (HU2.out x h)
    · exact .inr h
  · rcases hx with hx | rfl
    · exact HU2.out x (.inl hx)
    · exact HU1.out x (.inl rfl)
end
end

section
open Go.ChangeShapes Go.WideShapes Go.ChangeAt Go.RowKit
def baseV17 (B R self peer own : Int) : Value := .agg #[.int .i64 B, .int .i64 R, .int .i64 self, .int .i64 peer, .int .i64 own]
set_option maxRecDepth 100000 in
set_option maxHeartbeats 1000000 in
theorem made17_no {B R self peer own : Int} (h : ¬ ok17 B R self peer own) (w : World) :
    Calls Tryz.prog 6 #[baseV17 B R self peer own] w fun e w' => e = .returned (.pointer none) ∧ Below w.heap.size w w' := by
  have KN := Lib.hid (fun W => new17_no h W)
  unfold plV at KN
  unfold baseV17
  have HB := Lib.hid (below_al w (.cells #[.int .i64 B, .int .i64 R, .int .i64 self, .int .i64 peer, .int .i64 own] 25))
  clear h
  go_enter Tryz.func6, Tryz.ntmps6
  go_wp2_with fail
  refine (KN.out _).mono ?_
  rintro e w' ⟨rfl, hb⟩
  have HB2 := Lib.hid (below_on HB.out hb)
  clear hb
  go_wp2
  go_ret
  exact ⟨rfl, HB2.out⟩
set_option maxRecDepth 100000 in
set_option maxHeartbeats 1000000 in
theorem made17_yes {B self peer own : Int} {r : Nat} (h : ok17 B (r : Int) self peer own) (w : World) :
    Calls Tryz.prog 6 #[baseV17 B (r : Int) self peer own] w fun e w' => ∃ g, e = .returned (ptr g) ∧ KIs w' (fun x => w.heap.size ≤ x) g (new17 B r peer own) ∧ Below w.heap.size w w' := by
  have KN := Lib.hid (fun W => new17_yes r h W)
  unfold plV at KN
  unfold baseV17
  have HB := Lib.hid (below_al w (.cells #[.int .i64 B, .int .i64 (r : Int), .int .i64 self, .int .i64 peer, .int .i64 own] 25))
  clear h
  go_enter Tryz.func6, Tryz.ntmps6
  go_wp2_with fail
  refine (KN.out _).mono ?_
  rintro e w' ⟨g, s, vl, vg, rfl, hr, hn, hb⟩
  have HB2 := Lib.hid (below_on HB.out hb)
  have hs := HB.out.size
  have HR : Hid (KIs w' (fun x => w.heap.size ≤ x) g (new17 B r peer own)) := Lib.hid ⟨s, vl, vg, hr, fun x hx => Nat.le_trans hs (hn x hx)⟩
  clear hb hr hn hs
  unfold ptr
  go_wp2
  go_ret
  exact ⟨g, rfl, HR.out, HB2.out⟩
/-- One access of the taker, in numbers: the taker, the words, the kicks, the list. -/
structure Run17 where
  G : Tk
  V : List Int
  K : List Int
  T : List Tch
def rn17 (E : List Int) (s : Run17) : Int := aN17 s.V E (tch17 s.G)
def ra17 (E : List Int) (s : Run17) : Option Int := (aft17 s.G (rn17 E s)).2
def rs17 (E : List Int) (s : Run17) : Run17 := ⟨(aft17 s.G (rn17 E s)).1, aV17 s.V (tch17 s.G), aK17 s.K (tch17 s.G), s.T ++ aT17 s.V E (tch17 s.G)⟩
def it17 (E : List Int) (s : Run17) : Nat → Run17
  | 0 => s
  | n + 1 => rs17 E (it17 E s n)
theorem it17_ok {E : List Int} {s : Run17} (h : Ok17 s.G) : ∀ n, Ok17 (it17 E s n).G
  | 0 => h
  | n + 1 => ok17_aft (it17_ok h n) _
/-- The example. -/
def ex17 : Run17 := ⟨recT17 (new17 0 2 0 0), List.replicate 26 0, [], []⟩
theorem ex17_ok : ok17 0 ((2 : Nat) : Int) 1 0 0 := by decide
theorem ex17_steps : ∀ k, k < 4 → (it17 [0, 0] ex17 k).G.st ≠ 0 ∧ (it17 [0, 0] ex17 k).T.length ≤ 100 ∧ (it17 [0, 0] ex17 k).K.length ≤ 100 := by decide +kernel
theorem ex17_none : ∀ k, k < 3 → ra17 [0, 0] (it17 [0, 0] ex17 k) = none := by decide +kernel
theorem ex17_some : ra17 [0, 0] (it17 [0, 0] ex17 3) = some 6 := by decide +kernel
theorem ex17_end : (it17 [0, 0] ex17 4).T.length = 4 ∧ (it17 [0, 0] ex17 4).G.st = 0 ∧ (it17 [0, 0] ex17 4).G.linked = true := by decide +kernel
end

section
open Go.ChangeShapes Go.WideShapes Go.ChangeAt Go.RowKit
theorem stT17 {U : Nat → Prop} {g t p : Nat} {E : List Int} (s : Run17) (w : World) (h : Sys17 w U g t p s.G s.V E s.K s.T) (ho : Ok17 s.G) (h0 : s.G.st ≠ 0) (hT : TabAt w) (hl : s.T.length ≤ 65536)  :
    Calls Tryz.prog 21 #[.pointer (some ⟨g, 0, none⟩), tface14 t] w fun e w' => e = .returned (ansV17 (ra17 E s)) ∧ Sys17 w' (fun x => U x ∨ w.heap.size ≤ x) g t p (rs17 E s).G (rs17 E s).V E (rs17 E s).K (rs17 E s).T ∧ Only U w w' :=
  stepT17 w h ho.acc (ho.fit h0) hT hl
set_option maxRecDepth 100000 in
set_option maxHeartbeats 4000000 in
theorem alive17 (w : World) (hT : TabAt w) :
    Calls Tryz.prog 5 #[] w fun e w' => e = .returned (.bool true) ∧ Below w.heap.size w w' := by
  have hmk : ∀ W : World, (Instr.makeSlice 35 (.int .i64 26) (.int .i64 26)).run Tryz.prog W = .ok (.slice (some ⟨W.heap.size, 0, none⟩) 26 26) (W.alloc (.cells (madeCells #[.int .i64 0] 26) 3)) := fun W => run_make_row' (P := Tryz.prog) 35 3 (.int .i64 0) 8 Tryz.underlying35 int_info rfl .i64 .i64 26 (by omega) (by omega) W
  have HT := Lib.hid hT
  have KM := Lib.hid (made17_yes ex17_ok w)
  unfold baseV17 at KM
  clear hT
  go_enter Tryz.func5, Tryz.ntmps5
  go_wp2_with fail
  refine KM.out.mono ?_
  rintro e w1 ⟨g, rfl, s1, b1⟩
  have K2 := Lib.hid (recvS17 w1 s1)
  have hse : recE17 (new17 0 2 0 0) = 0 := by decide
  rw [hse] at K2
  have B1 := Lib.hid b1
  clear s1 b1 hse KM
  unfold ptr
  go_wp2_with fail
  refine K2.out.mono ?_
  rintro e w2 ⟨rfl, s2, o2⟩
  have S2 := Lib.hid (s2.weak (U' := fun x => w.heap.size ≤ x) (fun x _ h => by have := B1.out.size; omega))
  have B2 := Lib.hid (Only.below B1.out o2 B1.out.size (fun x hx h => by omega))
  clear s2 o2 K2 B1
  go_wp2_with fail
  have hz := Row.new w2 3 (madeCells #[Value.int .i64 0] 26)
  rw [ints_zeros] at hz
  have hz2 := hz.below (below_al (w2.alloc (.cells (madeCells #[Value.int .i64 0] 26) 3)) (.cells #[.int .i64 0, .int .i64 0] 3))
  have he2 := Row.new (w2.alloc (.cells (madeCells #[Value.int .i64 0] 26) 3)) 3 #[.int .i64 0, .int .i64 0]
  rw [size_al] at he2
  have hb3 := below_on (below_al w2 (.cells (madeCells #[Value.int .i64 0] 26) 3)) (below_al (w2.alloc (.cells (madeCells #[Value.int .i64 0] 26) 3)) (.cells #[.int .i64 0, .int .i64 0] 3))
  refine (ofWords14_any (fun _ => True) (fun _ => True) (List.replicate 26 0) [0, 0] _ _ _ (Lies.of_row hz2 trivial 26) (Lies.of_row he2 trivial 2) (by simp) (by simp)).mono ?_
  rintro e w4 ⟨p, a, b, rfl, rp, ha, hp, hb4⟩
  have e1 : mod14 (List.replicate 26 0) = List.replicate 26 0 := by decide
  have e2 : mod14 [0, 0] = [0, 0] := by decide
  rw [e1, e2] at rp
  have B4 := Lib.hid (below_on hb3 hb4)
  have RP := Lib.hid rp
  have hab : w2.heap.size ≤ a ∧ w2.heap.size ≤ p := by have := hb3.size; omega
  have HAB := Lib.hid hab
  clear hz hz2 he2 hb3 hb4 rp ha hp hab e1 e2 hmk
  unfold ptr
  go_wp2_with fail
  refine (traced14_any p w4).mono ?_
  rintro e w5 ⟨t, rfl, rt, ht, hb5⟩
  have hab := RP.out.ne
  have hsys := sys17_of S2.out (below_on B4.out hb5) (PtAt.mk (RP.out.below hb5) rt) (fun x hx => by
    have := B4.out.size
    have := HAB.out
    rcases hx with hx | rfl
    · rcases hx with rfl | rfl | rfl | hx | hx
      · omega
      · omega
      · omega
      · cases hx
      · cases hx
    · omega)
  have B5 := Lib.hid (below_on (below_on B2.out B4.out) hb5)
  have S5 : Hid (Sys17 w5 (fun x => w.heap.size ≤ x) g t p (it17 [0, 0] ex17 0).G (it17 [0, 0] ex17 0).V [0, 0] (it17 [0, 0] ex17 0).K (it17 [0, 0] ex17 0).T) := Lib.hid (hsys.weak (fun x _ h => by have := B2.out.size; omega))
  clear hsys rt ht hb5 B4 RP HAB S2 B2 hab
  unfold ptr
  go_wp2
  go_loopw [3] (fun iv wr => ∃ k : Nat, k ≤ 3 ∧ iv = .int .i64 ((k : Int) + 1) ∧ Hid (Sys17 wr (fun x => w.heap.size ≤ x) g t p (it17 [0, 0] ex17 k).G (it17 [0, 0] ex17 k).V [0, 0] (it17 [0, 0] ex17 k).K (it17 [0, 0] ex17 k).T) ∧ Hid (Below w.heap.size w wr)) (fun iv _ => 5 - (intOf iv).toNat)
  case atStart => exact ⟨0, Nat.zero_le _, rfl, S5, B5⟩
  case round =>
    clear S5 B5
    obtain ⟨k, hk, rfl, SR, BR⟩ := hrel
    have hst := ex17_steps k (by omega)
    have KS := Lib.hid (stT17 (it17 [0, 0] ex17 k) wr SR.out (it17_ok (ok17_rec (ok17_new ex17_ok)) k) hst.1 (HT.out.below BR.out) (by omega))
    unfold tface14 at KS
    clear hst
    by_cases hlt : k < 3
    · rw [ex17_none k hlt] at KS
      unfold ansV17 at KS
      have h9 : (k : Int) + 1 ≤ 3 := by omega
      go_wp2_with fail
      refine KS.out.mono ?_
      rintro e w6 ⟨rfl, s6, o6⟩
      have S6 : Hid (Sys17 w6 (fun x => w.heap.size ≤ x) g t p (it17 [0, 0] ex17 (k + 1)).G (it17 [0, 0] ex17 (k + 1)).V [0, 0] (it17 [0, 0] ex17 (k + 1)).K (it17 [0, 0] ex17 (k + 1)).T) := Lib.hid (Sys17.weak s6 (fun x _ h => by have := BR.out.size; omega))
      have B6 := Lib.hid (Only.below BR.out o6 BR.out.size (fun x hx h => by omega))
      clear s6 o6 KS SR BR
      go_wp2
      go_roundw
      case rel => exact ⟨k + 1, by omega, by go_num, S6, B6⟩
      case measure => simp [intOf]; omega
    · obtain rfl : k = 3 := by omega
      rw [ex17_some] at KS
      unfold ansV17 at KS
      go_wp2_with fail
      refine KS.out.mono ?_
      rintro e w6 ⟨rfl, s6, o6⟩
      have S6 : Hid (Sys17 w6 (fun x => w.heap.size ≤ x) g t p (it17 [0, 0] ex17 4).G (it17 [0, 0] ex17 4).V [0, 0] (it17 [0, 0] ex17 4).K (it17 [0, 0] ex17 4).T) := Lib.hid (Sys17.weak s6 (fun x _ h => by have := BR.out.size; omega))
      have B6 := Lib.hid (Only.below BR.out o6 BR.out.size (fun x hx h => by omega))
      clear s6 o6 KS SR BR
      obtain ⟨t4, z4, l4⟩ := ex17_end
      obtain ⟨s4, hs4⟩ : ∃ s, it17 [0, 0] ex17 4 = s := ⟨_, rfl⟩
      rw [hs4] at S6 t4 z4 l4
      obtain ⟨s, vl, vg, a, b, k, v, rg, rp, -, -, -⟩ := S6.out
      have KT := Lib.hid (touches14_any w6 rp.trace (by omega))
      have RG := Lib.hid rg
      have T4 := Lib.hid t4
      have Z4 := Lib.hid z4
      have L4 := Lib.hid l4
      clear rp rg t4 z4 l4 hs4 S6
      go_wp2_with fail
      refine KT.out.mono ?_
      rintro e w7 ⟨v7, rfl, own7, b7⟩
      rw [T4.out] at own7
      obtain ⟨A7, c7, rfl⟩ := own_open14 own7
      have KO := Lib.hid (busy17_any w7 (RG.out.below b7))
      have KL := Lib.hid (linked17_any w7 (RG.out.below b7))
      rw [Z4.out] at KO
      rw [L4.out] at KL
      have B7 := Lib.hid (below_on (show Below w.heap.size w w7 from B6.out.trans (b7.mono B6.out.size)) (Below.refl _ _))
      clear own7 b7 KT
      go_wp2_with fail
      refine KO.out.mono ?_
      rintro e w8 ⟨rfl, rfl⟩
      go_wp2_with fail
      refine KL.out.mono ?_
      rintro e w8 ⟨rfl, rfl⟩
      go_wp2
      go_ret
      exact ⟨rfl, B7.out⟩
end

end Go.Proofs.YtiofipofbeodpaaGreatDoor
