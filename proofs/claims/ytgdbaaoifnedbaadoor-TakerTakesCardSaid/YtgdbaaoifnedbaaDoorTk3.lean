/-
  Layer 17 (taker): follow.
  Conditions: those that each theorem states.
-/
import Derived.Test.YtgdbaaoifnedbaaDoorTk2
import Derived.Test.YtgdbaaoifnedbaaDoorFwd
namespace Go.Proofs.YtgdbaaoifnedbaaDoor
open Go.ChangeShapes Go.WideShapes Go.ChangeAt Go.RowKit

/-- What follows from an access, in numbers: the call is over with a result; behind a word. -/
def fin17 (T : Tk) (n : Int) : Tk := { T with st := 14, res := n }
def wor17 (T : Tk) : Tk := if (T.load.length : Int) < T.cnt then { T with st := 9 } else { T with st := 14 }

/-- What follows from an access that has read x: the taker then, and the result if the call has ended. -/
def aft17 (T : Tk) (x : Int) : Tk × Option Int :=
  if T.st = 1 then ({ askT17 T x with st := askS17 T x }, none)
  else if T.st = 4 then (idle17 { T with tab := clearL15 T.tab, linked := false, head := 0, used := 0 }, some 8)
  else if T.st = 5 then (if x = ep17 T then ({ T with linked := true, st := 6 }, none) else (idle17 T, some 9))
  else if T.st = 6 then (if looE17 T (subW x T.head) = 0 then { T with res := 0, st := 7 } else fin17 T (looE17 T (subW x T.head)), none)
  else if T.st = 7 then (if (0 ≤ x ∧ x < (T.R : Int)) ∧ x ∉ hs17 T then { T with slot := x, st := 8 } else fin17 T 10, none)
  else if T.st = 8 then (if 8 < x then fin17 T 10 else wor17 { T with cnt := x }, none)
  else if T.st = 9 then (wor17 { T with load := T.load ++ [x] }, none)
  else if T.st = 14 then (idle17 (judT17 T x), some (judE17 T x))
  else ({ T with st := T.st + 1 }, none)
def ansV17 (o : Option Int) : Value := .tuple #[.bool o.isSome, .int .i64 (o.getD 0)]

/-- The body of follow, and the code behind its labels. -/
noncomputable def fol17B : Option Code := (Tryd.prog.funcs[78]?).bind (fun f => f.body)
noncomputable def fol17C : Code := match fol17B with | some (Code.seq _ (Code.scope c)) => c | _ => Code.skip
noncomputable def fol17J (l : Nat) : Option Code := findLabel fol17C l
noncomputable def fol17R (l : Nat) : Code := (findLabel fol17C l).getD .skip
theorem fol17J0 : fol17J 0 = some (fol17R 0) := by kernel_rfl
theorem fol17J1 : fol17J 1 = some (fol17R 1) := by kernel_rfl

section
variable {k s : Nat} {T : Tk} {vl vg : Value}

/-- Another list lies in the place of the words. -/
theorem KAt.setLoad {w w1 : World} (r : KAt w k T s vl vg) {v' : Value} {xs : List Int} (ho : Only (fun x => vl.ownBlock = some x) w w1) (o1 : w1.ownsRow 0 3 1 v' xs.length (ints xs)) (hat : v'.ownBlock = vl.ownBlock ∨ ∃ x, v'.ownBlock = some x ∧ w.heap.size ≤ x) :
    KAt (w1.setCell ⟨k, 15, none⟩ v') k { T with load := xs } s v' vg ∧ Only (own17 k s vl vg) w (w1.setCell ⟨k, 15, none⟩ v') ∧ ∀ x, own17 k s v' vg x → own17 k s vl vg x ∨ w.heap.size ≤ x := by
  have r1 := r.row.only ho (fun e => r.lk e)
  have h2 := only_put17 w1 k 15 v'
  have hne : ∀ x, v'.ownBlock = some x → ¬ x = k := fun x hx e => by
    rcases hat with h | ⟨y, h, hy⟩
    · exact r.lk (by rw [← h, hx, e])
    · rw [hx] at h; injection h with h; have := r.row.lt; omega
  have hO := (ho.mono (T := own17 k s vl vg) (fun _ _ h => .inr (.inr (.inl h)))).trans (h2.mono (fun _ _ h => .inl h))
  refine ⟨⟨⟨r1.put 15 v', (r.tab.only ho (fun e => r.ls e)).only h2 r.sk, own_quiet o1 (fun x hx => h2.block x (o1.lt x hx).2 (hne x hx)), ?_⟩, fun x hx e => ?_⟩, hO, fun x h => ?_⟩
  · exact own_quiet (own_quiet r.got (fun x hx => ho.block x (r.got.lt x hx).2 (fun e => r.lg x e hx))) (fun x hx => h2.block x (Nat.lt_of_lt_of_le (r.got.lt x hx).2 ho.size) (fun e => r.gk (by rw [hx, e])))
  · rcases hat with h | ⟨y, h, hy⟩
    · exact r.lg x (by rw [← h, hx]) e
    · rw [hx] at h; injection h with h; have := (r.got.lt x e).2; omega
  · rcases h with h | h | h | h
    · exact .inl (.inl h)
    · exact .inl (.inr (.inl h))
    · rcases hat with e | ⟨y, e, hy⟩
      · exact .inl (.inr (.inr (.inl (by rw [← e, h]))))
      · rw [h] at e; injection e with e; exact .inr (by omega)
    · exact .inl (.inr (.inr (.inr h)))

set_option maxRecDepth 100000 in
set_option maxHeartbeats 2000000 in
theorem fol17_s2 (x : Int) (w : World) (r : KAt w k T s vl vg) (hst : T.st = 2) :
    Calls Tryd.prog 78 #[.pointer (some ⟨k, 0, none⟩), .int .i64 x] w (KP17 k s (aft17 T x).1 vl vg (ansV17 (aft17 T x).2) w) := by
  have R := Lib.hid r
  have HE : Hid (aft17 T x = ({ T with st := 3 }, none)) := Lib.hid (by unfold aft17; simp [hst])
  have HR : Hid (Row (w.setCell ⟨k, 6, none⟩ (.int .i64 3)) k 128 (tkC { T with st := 3 } s vl vg)) := Lib.hid (r.row.put 6 (.int .i64 3))
  have c6 := r.row.cell 6
  have f6 := r.row.soft 6
  simp only [tkC, List.getElem?_cons_zero, List.getElem?_cons_succ] at c6
  rw [hst] at c6
  clear r hst
  go_enter Tryd.func78, Tryd.ntmps78
  go_wp2
  refine wp_scope_fwd 3 fol17J (fun l => by kernel_rfl) ?_
  go_wp2
  go_ret2
  rw [HE.out]
  exact KP17.one R.out (only_put17 _ _ _ _) HR.out rfl rfl rfl

set_option maxRecDepth 100000 in
set_option maxHeartbeats 2000000 in
theorem fol17_s3 (x : Int) (w : World) (r : KAt w k T s vl vg) (hst : T.st = 3) :
    Calls Tryd.prog 78 #[.pointer (some ⟨k, 0, none⟩), .int .i64 x] w (KP17 k s (aft17 T x).1 vl vg (ansV17 (aft17 T x).2) w) := by
  have R := Lib.hid r
  have HE : Hid (aft17 T x = ({ T with st := 4 }, none)) := Lib.hid (by unfold aft17; simp [hst])
  have HR : Hid (Row (w.setCell ⟨k, 6, none⟩ (.int .i64 4)) k 128 (tkC { T with st := 4 } s vl vg)) := Lib.hid (r.row.put 6 (.int .i64 4))
  have c6 := r.row.cell 6
  have f6 := r.row.soft 6
  simp only [tkC, List.getElem?_cons_zero, List.getElem?_cons_succ] at c6
  rw [hst] at c6
  clear r hst
  go_enter Tryd.func78, Tryd.ntmps78
  go_wp2
  refine wp_scope_fwd 3 fol17J (fun l => by kernel_rfl) ?_
  go_wp2
  go_ret2
  rw [HE.out]
  exact KP17.one R.out (only_put17 _ _ _ _) HR.out rfl rfl rfl

set_option maxRecDepth 100000 in
set_option maxHeartbeats 2000000 in
theorem fol17_s10 (x : Int) (w : World) (r : KAt w k T s vl vg) (hst : T.st = 10) :
    Calls Tryd.prog 78 #[.pointer (some ⟨k, 0, none⟩), .int .i64 x] w (KP17 k s (aft17 T x).1 vl vg (ansV17 (aft17 T x).2) w) := by
  have R := Lib.hid r
  have HE : Hid (aft17 T x = ({ T with st := 11 }, none)) := Lib.hid (by unfold aft17; simp [hst])
  have HR : Hid (Row (w.setCell ⟨k, 6, none⟩ (.int .i64 11)) k 128 (tkC { T with st := 11 } s vl vg)) := Lib.hid (r.row.put 6 (.int .i64 11))
  have c6 := r.row.cell 6
  have f6 := r.row.soft 6
  simp only [tkC, List.getElem?_cons_zero, List.getElem?_cons_succ] at c6
  rw [hst] at c6
  clear r hst
  go_enter Tryd.func78, Tryd.ntmps78
  go_wp2
  refine wp_scope_fwd 3 fol17J (fun l => by kernel_rfl) ?_
  go_wp2
  go_ret2
  rw [HE.out]
  exact KP17.one R.out (only_put17 _ _ _ _) HR.out rfl rfl rfl

set_option maxRecDepth 100000 in
set_option maxHeartbeats 2000000 in
theorem fol17_s11 (x : Int) (w : World) (r : KAt w k T s vl vg) (hst : T.st = 11) :
    Calls Tryd.prog 78 #[.pointer (some ⟨k, 0, none⟩), .int .i64 x] w (KP17 k s (aft17 T x).1 vl vg (ansV17 (aft17 T x).2) w) := by
  have R := Lib.hid r
  have HE : Hid (aft17 T x = ({ T with st := 12 }, none)) := Lib.hid (by unfold aft17; simp [hst])
  have HR : Hid (Row (w.setCell ⟨k, 6, none⟩ (.int .i64 12)) k 128 (tkC { T with st := 12 } s vl vg)) := Lib.hid (r.row.put 6 (.int .i64 12))
  have c6 := r.row.cell 6
  have f6 := r.row.soft 6
  simp only [tkC, List.getElem?_cons_zero, List.getElem?_cons_succ] at c6
  rw [hst] at c6
  clear r hst
  go_enter Tryd.func78, Tryd.ntmps78
  go_wp2
  refine wp_scope_fwd 3 fol17J (fun l => by kernel_rfl) ?_
  go_wp2
  go_ret2
  rw [HE.out]
  exact KP17.one R.out (only_put17 _ _ _ _) HR.out rfl rfl rfl

set_option maxRecDepth 100000 in
set_option maxHeartbeats 2000000 in
theorem fol17_s12 (x : Int) (w : World) (r : KAt w k T s vl vg) (hst : T.st = 12) :
    Calls Tryd.prog 78 #[.pointer (some ⟨k, 0, none⟩), .int .i64 x] w (KP17 k s (aft17 T x).1 vl vg (ansV17 (aft17 T x).2) w) := by
  have R := Lib.hid r
  have HE : Hid (aft17 T x = ({ T with st := 13 }, none)) := Lib.hid (by unfold aft17; simp [hst])
  have HR : Hid (Row (w.setCell ⟨k, 6, none⟩ (.int .i64 13)) k 128 (tkC { T with st := 13 } s vl vg)) := Lib.hid (r.row.put 6 (.int .i64 13))
  have c6 := r.row.cell 6
  have f6 := r.row.soft 6
  simp only [tkC, List.getElem?_cons_zero, List.getElem?_cons_succ] at c6
  rw [hst] at c6
  clear r hst
  go_enter Tryd.func78, Tryd.ntmps78
  go_wp2
  refine wp_scope_fwd 3 fol17J (fun l => by kernel_rfl) ?_
  go_wp2
  go_ret2
  rw [HE.out]
  exact KP17.one R.out (only_put17 _ _ _ _) HR.out rfl rfl rfl

set_option maxRecDepth 100000 in
set_option maxHeartbeats 2000000 in
theorem fol17_s13 (x : Int) (w : World) (r : KAt w k T s vl vg) (hst : T.st = 13) :
    Calls Tryd.prog 78 #[.pointer (some ⟨k, 0, none⟩), .int .i64 x] w (KP17 k s (aft17 T x).1 vl vg (ansV17 (aft17 T x).2) w) := by
  have R := Lib.hid r
  have HE : Hid (aft17 T x = ({ T with st := 14 }, none)) := Lib.hid (by unfold aft17; simp [hst])
  have HR : Hid (Row (w.setCell ⟨k, 6, none⟩ (.int .i64 14)) k 128 (tkC { T with st := 14 } s vl vg)) := Lib.hid (r.row.put 6 (.int .i64 14))
  have c6 := r.row.cell 6
  have f6 := r.row.soft 6
  simp only [tkC, List.getElem?_cons_zero, List.getElem?_cons_succ] at c6
  rw [hst] at c6
  clear r hst
  go_enter Tryd.func78, Tryd.ntmps78
  go_wp2
  refine wp_scope_fwd 3 fol17J (fun l => by kernel_rfl) ?_
  go_wp2
  go_ret2
  rw [HE.out]
  exact KP17.one R.out (only_put17 _ _ _ _) HR.out rfl rfl rfl

set_option maxRecDepth 100000 in
set_option maxHeartbeats 2000000 in
theorem fol17_s1 (x : Int) (w : World) (r : KAt w k T s vl vg) (hst : T.st = 1) :
    Calls Tryd.prog 78 #[.pointer (some ⟨k, 0, none⟩), .int .i64 x] w (KP17 k s (aft17 T x).1 vl vg (ansV17 (aft17 T x).2) w) := by
  have R := Lib.hid r
  have KA := Lib.hid (asked17_any x w r)
  have HE : Hid (aft17 T x = ({ askT17 T x with st := askS17 T x }, none)) := Lib.hid (by unfold aft17; simp [hst])
  have c6 := r.row.cell 6
  simp only [tkC, List.getElem?_cons_zero, List.getElem?_cons_succ] at c6
  rw [hst] at c6
  clear r hst
  go_enter Tryd.func78, Tryd.ntmps78
  go_wp2
  refine wp_scope_fwd 3 fol17J (fun l => by kernel_rfl) ?_
  go_wp2_with fail
  refine KA.out.mono ?_
  rintro e w1 ⟨vl1, vg1, rfl, r1, o1, n1⟩
  have zc6 := r1.row.cell 6
  have zf6 := r1.row.soft 6
  simp only [tkC, List.getElem?_cons_zero, List.getElem?_cons_succ] at zc6
  have R1 := Lib.hid r1
  have O1 := Lib.hid o1
  have N1 := Lib.hid n1
  clear r1 o1 n1
  go_wp2
  go_ret2
  rw [HE.out]
  exact KP17.more O1.out N1.out R1.out (only_put17 _ _ _ _) (R1.out.row.put 6 _) rfl rfl rfl

set_option maxRecDepth 100000 in
set_option maxHeartbeats 2000000 in
theorem fol17_s5 (x : Int) (w : World) (r : KAt w k T s vl vg) (hst : T.st = 5) :
    Calls Tryd.prog 78 #[.pointer (some ⟨k, 0, none⟩), .int .i64 x] w (KP17 k s (aft17 T x).1 vl vg (ansV17 (aft17 T x).2) w) := by
  have R := Lib.hid r
  have KA := Lib.hid (epoch17_any w r)
  have c6 := r.row.cell 6
  have f6 := r.row.soft 6
  simp only [tkC, List.getElem?_cons_zero, List.getElem?_cons_succ] at c6
  rw [hst] at c6
  obtain ⟨q, hq⟩ : ∃ q, ep17 T = q := ⟨_, rfl⟩
  rw [hq] at KA
  by_cases hx : x = q
  · have HE : Hid (aft17 T x = ({ T with linked := true, st := 6 }, none)) := Lib.hid (by unfold aft17; simp [hst, hq, hx])
    have e0 : (x != q) = false := by simp [hx]
    clear r hst hx hq
    go_enter Tryd.func78, Tryd.ntmps78
    go_wp2
    refine wp_scope_fwd 3 fol17J (fun l => by kernel_rfl) ?_
    go_wp2_with fail
    refine KA.out.mono ?_
    rintro e w1 ⟨rfl, b1⟩
    have R1 := Lib.hid (R.out.below b1)
    have zc6 := R1.out.row.cell 6
    have zc9 := R1.out.row.cell 9
    have zf6 := R1.out.row.soft 6
    have zf9 := R1.out.row.soft 9
    simp only [tkC, List.getElem?_cons_zero, List.getElem?_cons_succ] at zc6 zc9
    have O1 := Lib.hid (Only.of_below b1 (own17 k s vl vg))
    clear b1
    go_wp2
    go_ret2
    rw [HE.out]
    exact KP17.more O1.out (fun _ h => .inl h) R1.out ((only_put17 _ _ _ _).put17 _ _) ((R1.out.row.put 9 (.bool true)).put 6 (.int .i64 6)) rfl rfl rfl
  · have HE : Hid (aft17 T x = (idle17 T, some 9)) := Lib.hid (by unfold aft17; simp [hst, hq, hx])
    have e0 : (x != q) = true := by simpa using hx
    clear r hst hx hq
    go_enter Tryd.func78, Tryd.ntmps78
    go_wp2
    refine wp_scope_fwd 3 fol17J (fun l => by kernel_rfl) ?_
    go_wp2_with fail
    refine KA.out.mono ?_
    rintro e w1 ⟨rfl, b1⟩
    have R1 := Lib.hid (R.out.below b1)
    have KE := Lib.hid (end17_any 9 w1 R1.out.toKAtW)
    have O1 := Lib.hid (Only.of_below b1 (own17 k s vl vg))
    clear b1
    go_wp2_with fail
    refine KE.out.mono ?_
    rintro e w2 ⟨vl2, vg2, rfl, r2, o2, n2⟩
    have R2 := Lib.hid r2
    have O2 := Lib.hid o2
    have N2 := Lib.hid n2
    clear r2 o2 n2
    go_wp2
    go_ret2
    rw [HE.out]
    exact KP17.trans O1.out (fun _ h => .inl h) ⟨_, _, rfl, R2.out, O2.out, N2.out⟩

set_option maxRecDepth 100000 in
set_option maxHeartbeats 2000000 in
theorem fol17_s14 (x : Int) (w : World) (r : KAt w k T s vl vg) (hst : T.st = 14) :
    Calls Tryd.prog 78 #[.pointer (some ⟨k, 0, none⟩), .int .i64 x] w (KP17 k s (aft17 T x).1 vl vg (ansV17 (aft17 T x).2) w) := by
  have R := Lib.hid r
  have KA := Lib.hid (judge17_any x w r)
  have HE : Hid (aft17 T x = (idle17 (judT17 T x), some (judE17 T x))) := Lib.hid (by unfold aft17; simp [hst])
  have c6 := r.row.cell 6
  simp only [tkC, List.getElem?_cons_zero, List.getElem?_cons_succ] at c6
  rw [hst] at c6
  clear r hst
  go_enter Tryd.func78, Tryd.ntmps78
  go_wp2
  refine wp_scope_fwd 3 fol17J (fun l => by kernel_rfl) ?_
  go_wp2_with fail
  refine KA.out.mono ?_
  rintro e w1 ⟨vl1, vg1, rfl, r1, o1, n1⟩
  have KE := Lib.hid (end17_any (judE17 T x) w1 r1)
  have O1 := Lib.hid o1
  have N1 := Lib.hid n1
  clear r1 o1 n1
  go_wp2_with fail
  refine KE.out.mono ?_
  rintro e w2 ⟨vl2, vg2, rfl, r2, o2, n2⟩
  have R2 := Lib.hid r2
  have O2 := Lib.hid o2
  have N2 := Lib.hid n2
  clear r2 o2 n2
  go_wp2
  go_ret2
  rw [HE.out]
  exact KP17.trans O1.out N1.out ⟨_, _, rfl, R2.out, O2.out, N2.out⟩

set_option maxRecDepth 100000 in
set_option maxHeartbeats 2000000 in
theorem fol17_s4 (x : Int) (w : World) (r : KAt w k T s vl vg) (hst : T.st = 4) :
    Calls Tryd.prog 78 #[.pointer (some ⟨k, 0, none⟩), .int .i64 x] w (KP17 k s (aft17 T x).1 vl vg (ansV17 (aft17 T x).2) w) := by
  have R := Lib.hid r
  have KC := Lib.hid (clear15_any s T.tab w r.tab)
  unfold ptr at KC
  have HE : Hid (aft17 T x = (idle17 { T with tab := clearL15 T.tab, linked := false, head := 0, used := 0 }, some 8)) := Lib.hid (by unfold aft17; simp [hst])
  have c6 := r.row.cell 6
  have c8 := r.row.cell 8
  simp only [tkC, List.getElem?_cons_zero, List.getElem?_cons_succ] at c6 c8
  rw [hst] at c6
  clear r hst
  go_enter Tryd.func78, Tryd.ntmps78
  go_wp2
  refine wp_scope_fwd 3 fol17J (fun l => by kernel_rfl) ?_
  go_wp2_with fail
  refine KC.out.mono ?_
  rintro e w1 ⟨rfl, r1, o1⟩
  have R1 := Lib.hid (R.out.setTab o1 r1)
  have O1 := Lib.hid (o1.mono (T := own17 k s vl vg) (fun _ _ h => .inr (.inl h)))
  have zc9 := R1.out.row.cell 9
  have zc10 := R1.out.row.cell 10
  have zc11 := R1.out.row.cell 11
  have zf9 := R1.out.row.soft 9
  have zf10 := R1.out.row.soft 10
  have zf11 := R1.out.row.soft 11
  simp only [tkC, List.getElem?_cons_zero, List.getElem?_cons_succ] at zc9 zc10 zc11
  obtain ⟨w2, hw2⟩ : ∃ w2, w2 = ((w1.setCell ⟨k, 9, none⟩ (.bool false)).setCell ⟨k, 10, none⟩ (.int .i64 0)).setCell ⟨k, 11, none⟩ (.int .i64 0) := ⟨_, rfl⟩
  have o2 : Only (· = k) w1 w2 := by rw [hw2]; exact ((only_put17 w1 k 9 _).put17 10 _).put17 11 _
  have r2 : KAt w2 k { T with tab := clearL15 T.tab, linked := false, head := 0, used := 0 } s vl vg := R1.out.turn o2 (by rw [hw2]; exact ((R1.out.row.put 9 (.bool false)).put 10 (.int .i64 0)).put 11 (.int .i64 0)) rfl rfl rfl
  have KE := Lib.hid (end17_any 8 w2 r2.toKAtW)
  have O2 := Lib.hid (O1.out.trans (o2.mono (T := own17 k s vl vg) (fun _ _ h => .inl h)))
  rw [hw2] at KE
  have HW := Lib.hid hw2
  clear r1 o1 o2 r2 hw2
  go_wp2_with fail
  refine KE.out.mono ?_
  rw [← HW.out]
  rintro e w3 ⟨vl3, vg3, rfl, r3, o3, n3⟩
  have R3 := Lib.hid r3
  have O3 := Lib.hid o3
  have N3 := Lib.hid n3
  clear r3 o3 n3
  go_wp2
  go_ret2
  rw [HE.out]
  exact KP17.trans O2.out (fun _ h => .inl h) ⟨_, _, rfl, R3.out, O3.out, N3.out⟩

set_option maxRecDepth 100000 in
set_option maxHeartbeats 2000000 in
theorem fol17_s6 (x : Int) (w : World) (r : KAt w k T s vl vg) (hst : T.st = 6) (hR : T.R ≤ 64) (hh : (hs17 T).length ≤ 64) :
    Calls Tryd.prog 78 #[.pointer (some ⟨k, 0, none⟩), .int .i64 x] w (KP17 k s (aft17 T x).1 vl vg (ansV17 (aft17 T x).2) w) := by
  have R := Lib.hid r
  have AD := Lib.hid (fun W => sub_any x T.head W)
  obtain ⟨q, hq⟩ : ∃ q, subW x T.head = q := ⟨_, rfl⟩
  rw [hq] at AD
  have KL := Lib.hid (looked17_any q w r hR hh)
  obtain ⟨n, hn⟩ : ∃ n, looE17 T q = n := ⟨_, rfl⟩
  rw [hn] at KL
  have c6 := r.row.cell 6
  have c10 := r.row.cell 10
  simp only [tkC, List.getElem?_cons_zero, List.getElem?_cons_succ] at c6 c10
  rw [hst] at c6
  by_cases h0 : n = 0
  · have HE : Hid (aft17 T x = ({ T with res := n, st := 7 }, none)) := Lib.hid (by unfold aft17; simp [hst, hq, hn, h0])
    have e0 : (n != 0) = false := by simp [h0]
    clear r hst hq hn h0 hR hh
    go_enter Tryd.func78, Tryd.ntmps78
    go_wp2
    refine wp_scope_fwd 3 fol17J (fun l => by kernel_rfl) ?_
    go_wp2_with (go_at_call 95; refine (AD.out _).mono ?_; rintro e w' ⟨rfl, rfl⟩)
    refine KL.out.mono ?_
    rintro e w1 ⟨rfl, b1⟩
    have R1 := Lib.hid (R.out.below b1)
    have zc6 := R1.out.row.cell 6
    have zc16 := R1.out.row.cell 16
    have zf6 := R1.out.row.soft 6
    have zf16 := R1.out.row.soft 16
    simp only [tkC, List.getElem?_cons_zero, List.getElem?_cons_succ] at zc6 zc16
    have O1 := Lib.hid (Only.of_below b1 (own17 k s vl vg))
    clear b1
    go_wp2
    go_ret2
    rw [HE.out]
    exact KP17.more O1.out (fun _ h => .inl h) R1.out ((only_put17 _ _ _ _).put17 _ _) ((R1.out.row.put 16 (.int .i64 n)).put 6 (.int .i64 7)) rfl rfl rfl
  · have HE : Hid (aft17 T x = (fin17 T n, none)) := Lib.hid (by unfold aft17; simp [hst, hq, hn, h0])
    have e0 : (n != 0) = true := by simpa using h0
    clear r hst hq hn h0 hR hh
    go_enter Tryd.func78, Tryd.ntmps78
    go_wp2
    refine wp_scope_fwd 3 fol17J (fun l => by kernel_rfl) ?_
    go_wp2_with (go_at_call 95; refine (AD.out _).mono ?_; rintro e w' ⟨rfl, rfl⟩)
    refine KL.out.mono ?_
    rintro e w1 ⟨rfl, b1⟩
    have R1 := Lib.hid (R.out.below b1)
    have zc6 := R1.out.row.cell 6
    have zc16 := R1.out.row.cell 16
    have zf6 := R1.out.row.soft 6
    have zf16 := R1.out.row.soft 16
    simp only [tkC, List.getElem?_cons_zero, List.getElem?_cons_succ] at zc6 zc16
    have O1 := Lib.hid (Only.of_below b1 (own17 k s vl vg))
    clear b1
    go_wp2
    go_step3
    try simp only [Exit.inBlock]
    try simp only [Exit.then]
    refine fwd_goto fol17J0 ?_
    conv => arg 2; whnf
    go_wp2
    go_ret2
    rw [HE.out]
    exact KP17.more O1.out (fun _ h => .inl h) R1.out ((only_put17 _ _ _ _).put17 _ _) ((R1.out.row.put 16 (.int .i64 n)).put 6 (.int .i64 14)) rfl rfl rfl

set_option maxRecDepth 100000 in
set_option maxHeartbeats 2000000 in
theorem fol17_s7 (x : Int) (w : World) (r : KAt w k T s vl vg) (hst : T.st = 7) (hh : (hs17 T).length ≤ 64) :
    Calls Tryd.prog 78 #[.pointer (some ⟨k, 0, none⟩), .int .i64 x] w (KP17 k s (aft17 T x).1 vl vg (ansV17 (aft17 T x).2) w) := by
  have R := Lib.hid r
  have BE := Lib.hid (below17_any x (T.R : Int) w)
  have KH := Lib.hid (held17_any w r)
  have c1 := r.row.cell 1
  have c6 := r.row.cell 6
  have c16 := r.row.cell 16
  have f6 := r.row.soft 6
  have f16 := r.row.soft 16
  simp only [tkC, List.getElem?_cons_zero, List.getElem?_cons_succ] at c1 c6 c16
  rw [hst] at c6
  by_cases hb : 0 ≤ x ∧ x < (T.R : Int)
  · rw [decide_eq_true hb] at BE
    by_cases hm : x ∈ hs17 T
    · have HE : Hid (aft17 T x = (fin17 T 10, none)) := Lib.hid (by unfold aft17; simp [hst, hb, hm])
      have HM := Lib.hid (decide_eq_true hm)
      clear r hst hb hm
      go_enter Tryd.func78, Tryd.ntmps78
      go_wp2
      refine wp_scope_fwd 3 fol17J (fun l => by kernel_rfl) ?_
      go_wp2_with fail
      refine BE.out.mono ?_
      rintro e w' ⟨rfl, rfl⟩
      go_wp2_with fail
      refine KH.out.mono ?_
      rintro e w1 ⟨v1, rfl, o1, b1⟩
      have R1 := Lib.hid (R.out.below b1)
      have KC := Lib.hid (contains17_any _ (hs17 T) v1 x w1 (Lies.of_own o1) (by omega))
      rw [HM.out] at KC
      obtain ⟨A1, c1', rfl⟩ := own15_is o1
      have zc6 := R1.out.row.cell 6
      have zc16 := R1.out.row.cell 16
      have zf6 := R1.out.row.soft 6
      have zf16 := R1.out.row.soft 16
      simp only [tkC, List.getElem?_cons_zero, List.getElem?_cons_succ] at zc6 zc16
      have O1 := Lib.hid (Only.of_below b1 (own17 k s vl vg))
      clear o1 b1
      go_wp2_with fail
      refine KC.out.mono ?_
      rintro e w' ⟨rfl, rfl⟩
      go_wp2
      go_step3
      try simp only [Exit.inBlock]
      try simp only [Exit.then]
      refine fwd_goto fol17J0 ?_
      conv => arg 2; whnf
      go_wp2
      go_ret2
      rw [HE.out]
      exact KP17.more O1.out (fun _ h => .inl h) R1.out ((only_put17 _ _ _ _).put17 _ _) ((R1.out.row.put 16 (.int .i64 10)).put 6 (.int .i64 14)) rfl rfl rfl
    · have HE : Hid (aft17 T x = ({ T with slot := x, st := 8 }, none)) := Lib.hid (by unfold aft17; simp [hst, hb, hm])
      have HM := Lib.hid (decide_eq_false hm)
      clear r hst hb hm
      go_enter Tryd.func78, Tryd.ntmps78
      go_wp2
      refine wp_scope_fwd 3 fol17J (fun l => by kernel_rfl) ?_
      go_wp2_with fail
      refine BE.out.mono ?_
      rintro e w' ⟨rfl, rfl⟩
      go_wp2_with fail
      refine KH.out.mono ?_
      rintro e w1 ⟨v1, rfl, o1, b1⟩
      have R1 := Lib.hid (R.out.below b1)
      have KC := Lib.hid (contains17_any _ (hs17 T) v1 x w1 (Lies.of_own o1) (by omega))
      rw [HM.out] at KC
      obtain ⟨A1, c1', rfl⟩ := own15_is o1
      have zc6 := R1.out.row.cell 6
      have zc13 := R1.out.row.cell 13
      have zf6 := R1.out.row.soft 6
      have zf13 := R1.out.row.soft 13
      simp only [tkC, List.getElem?_cons_zero, List.getElem?_cons_succ] at zc6 zc13
      have O1 := Lib.hid (Only.of_below b1 (own17 k s vl vg))
      clear o1 b1
      go_wp2_with fail
      refine KC.out.mono ?_
      rintro e w' ⟨rfl, rfl⟩
      go_wp2
      go_ret2
      rw [HE.out]
      exact KP17.more O1.out (fun _ h => .inl h) R1.out ((only_put17 _ _ _ _).put17 _ _) ((R1.out.row.put 13 (.int .i64 x)).put 6 (.int .i64 8)) rfl rfl rfl
  · rw [decide_eq_false hb] at BE
    have HE : Hid (aft17 T x = (fin17 T 10, none)) := Lib.hid (by unfold aft17; simp only [hst]; simp [show ¬ ((0 ≤ x ∧ x < (T.R : Int)) ∧ x ∉ hs17 T) from fun h => hb h.1])
    clear r hst hb KH
    go_enter Tryd.func78, Tryd.ntmps78
    go_wp2
    refine wp_scope_fwd 3 fol17J (fun l => by kernel_rfl) ?_
    go_wp2_with fail
    refine BE.out.mono ?_
    rintro e w' ⟨rfl, rfl⟩
    go_wp2
    go_step3
    try simp only [Exit.inBlock]
    try simp only [Exit.then]
    refine fwd_goto fol17J0 ?_
    conv => arg 2; whnf
    go_wp2
    go_ret2
    rw [HE.out]
    exact KP17.one R.out ((only_put17 _ _ _ _).put17 _ _) ((R.out.row.put 16 (.int .i64 10)).put 6 (.int .i64 14)) rfl rfl rfl

set_option maxRecDepth 100000 in
set_option maxHeartbeats 2000000 in
theorem fol17_s8 (x : Int) (w : World) (r : KAt w k T s vl vg) (hst : T.st = 8) :
    Calls Tryd.prog 78 #[.pointer (some ⟨k, 0, none⟩), .int .i64 x] w (KP17 k s (aft17 T x).1 vl vg (ansV17 (aft17 T x).2) w) := by
  have R := Lib.hid r
  have c6 := r.row.cell 6
  have c14 := r.row.cell 14
  have c16 := r.row.cell 16
  have f6 := r.row.soft 6
  have f14 := r.row.soft 14
  have f16 := r.row.soft 16
  simp only [tkC, List.getElem?_cons_zero, List.getElem?_cons_succ] at c6 c14 c16
  rw [hst] at c6
  by_cases h8 : 8 < x
  · have HE : Hid (aft17 T x = (fin17 T 10, none)) := Lib.hid (by unfold aft17; simp [hst, h8])
    clear r hst
    go_enter Tryd.func78, Tryd.ntmps78
    go_wp2
    refine wp_scope_fwd 3 fol17J (fun l => by kernel_rfl) ?_
    go_wp2
    go_step3
    try simp only [Exit.inBlock]
    try simp only [Exit.then]
    refine fwd_goto fol17J0 ?_
    conv => arg 2; whnf
    go_wp2
    go_ret2
    rw [HE.out]
    exact KP17.one R.out ((only_put17 _ _ _ _).put17 _ _) ((R.out.row.put 16 (.int .i64 10)).put 6 (.int .i64 14)) rfl rfl rfl
  · obtain ⟨w2, hw2⟩ : ∃ w2, w2 = w.setCell ⟨k, 14, none⟩ (.int .i64 x) := ⟨_, rfl⟩
    have o2 : Only (· = k) w w2 := by rw [hw2]; exact only_put17 _ _ _ _
    obtain ⟨T1, hT⟩ : ∃ T1 : Tk, T1 = { T with cnt := x } := ⟨_, rfl⟩
    have r2 : KAt w2 k T1 s vl vg := by rw [hT]; exact r.turn o2 (by rw [hw2]; exact r.row.put 14 (.int .i64 x)) rfl rfl rfl
    have R2 := Lib.hid r2
    have O2 := Lib.hid (o2.mono (T := own17 k s vl vg) (fun _ _ h => .inl h))
    have HE : Hid (aft17 T x = (wor17 T1, none)) := Lib.hid (by unfold aft17; simp [hst, h8, hT])
    clear r hst o2 r2 hT
    go_enter Tryd.func78, Tryd.ntmps78
    go_wp2
    refine wp_scope_fwd 3 fol17J (fun l => by kernel_rfl) ?_
    go_wp2
    rw [← hw2]
    clear hw2
    obtain ⟨Al, cl, hvl⟩ := own_open14 R2.out.load
    obtain ⟨nl, hnl⟩ : ∃ n, (T1).load.length = n := ⟨_, rfl⟩
    obtain ⟨kl, hkl⟩ : ∃ n, (T1).cnt = n := ⟨_, rfl⟩
    rw [hnl] at hvl
    have yc6 := R2.out.row.cell 6
    have yc14 := R2.out.row.cell 14
    have yc15 := R2.out.row.cell 15
    have yf6 := R2.out.row.soft 6
    simp only [tkC, List.getElem?_cons_zero, List.getElem?_cons_succ] at yc6 yc14 yc15
    rw [hvl] at yc15
    rw [hkl] at yc14
    have HKL : Hid ((T1).load.length = nl ∧ (T1).cnt = kl) := Lib.hid ⟨hnl, hkl⟩
    clear hvl hnl hkl
    by_cases hkn : (nl : Int) < kl
    · have e9 : decide ((nl : Int) < kl) = true := by simpa using hkn
      have HW : Hid (wor17 (T1) = { T1 with st := 9 }) := Lib.hid (by unfold wor17; rw [if_pos (by rw [HKL.out.1, HKL.out.2]; exact hkn)])
      clear hkn
      go_step3
      try simp only [Exit.inBlock]
      try simp only [Exit.then]
      refine fwd_goto fol17J1 ?_
      conv => arg 2; whnf
      go_wp2
      go_quiet (fail)
      go_wp2
      go_ret2
      rw [HE.out, HW.out]
      refine KP17.more O2.out (fun _ h => .inl h) R2.out (by repeat (with_reducible (first | exact Only.refl _ _ | refine Only.put17 ?_ _ _ | refine Only.drewN ?_ _))) ?_ rfl rfl rfl
      exact (R2.out.row.drewN _).put 6 (.int .i64 9)
    · have e9 : decide ((nl : Int) < kl) = false := by simpa using hkn
      have HW : Hid (wor17 (T1) = { T1 with st := 14 }) := Lib.hid (by unfold wor17; rw [if_neg (by rw [HKL.out.1, HKL.out.2]; exact hkn)])
      clear hkn
      go_step3
      try simp only [Exit.inBlock]
      try simp only [Exit.then]
      refine fwd_goto fol17J1 ?_
      conv => arg 2; whnf
      go_wp2
      go_quiet (fail)
      go_wp2
      go_step3
      go_wp2
      go_ret2
      rw [HE.out, HW.out]
      refine KP17.more O2.out (fun _ h => .inl h) R2.out (by repeat (with_reducible (first | exact Only.refl _ _ | refine Only.put17 ?_ _ _ | refine Only.drewN ?_ _))) ?_ rfl rfl rfl
      exact (R2.out.row.drewN _).put 6 (.int .i64 14)

set_option maxRecDepth 100000 in
set_option maxHeartbeats 2000000 in
theorem fol17_s9 (x : Int) (w : World) (r : KAt w k T s vl vg) (hst : T.st = 9) (hl : T.load.length ≤ 100) :
    Calls Tryd.prog 78 #[.pointer (some ⟨k, 0, none⟩), .int .i64 x] w (KP17 k s (aft17 T x).1 vl vg (ansV17 (aft17 T x).2) w) := by
  have R := Lib.hid r
  obtain ⟨i0, hi0, hz0, hz1, hz2⟩ := info_parts int_info
  have c6 := r.row.cell 6
  have c15 := r.row.cell 15
  simp only [tkC, List.getElem?_cons_zero, List.getElem?_cons_succ] at c6 c15
  rw [hst] at c6
  obtain ⟨A, c, rfl⟩ := own_open14 r.load
  obtain ⟨n, hn⟩ : ∃ n, T.load.length = n := ⟨_, rfl⟩
  have OL := r.load
  rw [hn] at c15 hl OL R ⊢
  have HF := Lib.hid OL
  have HN := Lib.hid hn
  obtain ⟨T1, hT⟩ : ∃ T1 : Tk, T1 = { T with load := T.load ++ [x] } := ⟨_, rfl⟩
  have HE : Hid (aft17 T x = (wor17 T1, none)) := Lib.hid (by unfold aft17; simp [hst, hT])
  have HT := Lib.hid hT
  have hgl := r.row.lt
  clear r hst hn hT OL
  go_enter Tryd.func78, Tryd.ntmps78
  go_wp2
  refine wp_scope_fwd 3 fol17J (fun l => by kernel_rfl) ?_
  go_wp2_with (at_builtin; go_must ((refine app14_walk rfl (.tmp 129) (.tmp 131) 33 rfl 0 3 i0 _ 1 8 Tryd.underlying33 hi0 hz0 hz1 hz2 rfl (by omega) _ _ _ rfl (HF.out.alloc _) ⟨_, 0, none⟩ 1 1 [.int .i64 x] rfl rfl (cells_new14 _ _ _ _ (by simp)) (by intro u hu; simp at hu; subst hu; rfl) (by unfold maxLen; omega) (by omega) (by simp) ?_); intro v3 w3 hown3 hg3 hat3; obtain ⟨g', cap', rfl, hbg, hlt'⟩ := hown3.form (by omega); have HR3 := Lib.hid ((R.out.row.below (below_al w (.cells #[.int .i64 x] 3))).of_grown hg3 (fun e => R.out.lk e.symm)); have hd15 := HR3.out.cell 15; have hg15 := HR3.out.soft 15; simp only [tkC, List.getElem?_cons_zero, List.getElem?_cons_succ] at hd15; have OG3 := Lib.hid ((Only.of_below (below_al w (.cells #[.int .i64 x] 3)) (fun y => (Value.slice A n c).ownBlock = some y)).trans (Only.of_own hg3)); have HA3 : Hid (Value.ownBlock (.slice (some ⟨g', 0, none⟩) (n + 1) cap') = (Value.slice A n c).ownBlock ∨ ∃ y, Value.ownBlock (.slice (some ⟨g', 0, none⟩) (n + 1) cap') = some y ∧ w.heap.size ≤ y) := Lib.hid (hat3.imp id (fun e => ⟨_, e, by simp⟩)); have HO3 := Lib.hid hown3; clear hown3 hg3 hat3))
  have S3 := Lib.hid (R.out.setLoad (xs := T.load ++ [x]) OG3.out (by rw [List.length_append, HN.out, ints_append]; exact HO3.out) HA3.out)
  rw [← HT.out] at S3
  obtain ⟨w2, hw2⟩ : ∃ w2, w2 = w3.setCell ⟨k, 15, none⟩ (.slice (some ⟨g', 0, none⟩) (n + 1) cap') := ⟨_, rfl⟩
  rw [← hw2] at S3 ⊢
  have R2 := Lib.hid S3.out.1
  clear hw2 hd15 hg15
  obtain ⟨Al, cl, hvl⟩ := own_open14 R2.out.load
  obtain ⟨nl, hnl⟩ : ∃ n, (T1).load.length = n := ⟨_, rfl⟩
  obtain ⟨kl, hkl⟩ : ∃ n, (T1).cnt = n := ⟨_, rfl⟩
  rw [hnl] at hvl
  have yc6 := R2.out.row.cell 6
  have yc14 := R2.out.row.cell 14
  have yc15 := R2.out.row.cell 15
  have yf6 := R2.out.row.soft 6
  simp only [tkC, List.getElem?_cons_zero, List.getElem?_cons_succ] at yc6 yc14 yc15
  rw [hvl] at yc15
  rw [hkl] at yc14
  have HKL : Hid ((T1).load.length = nl ∧ (T1).cnt = kl) := Lib.hid ⟨hnl, hkl⟩
  clear hvl hnl hkl
  by_cases hkn : (nl : Int) < kl
  · have e9 : decide ((nl : Int) < kl) = true := by simpa using hkn
    have HW : Hid (wor17 (T1) = { T1 with st := 9 }) := Lib.hid (by unfold wor17; rw [if_pos (by rw [HKL.out.1, HKL.out.2]; exact hkn)])
    clear hkn
    go_step3
    try simp only [Exit.inBlock]
    try simp only [Exit.then]
    refine fwd_goto fol17J1 ?_
    conv => arg 2; whnf
    go_wp2
    go_quiet (fail)
    go_wp2
    go_ret2
    rw [HE.out, HW.out]
    refine KP17.more S3.out.2.1 S3.out.2.2 R2.out (by repeat (with_reducible (first | exact Only.refl _ _ | refine Only.put17 ?_ _ _ | refine Only.drewN ?_ _))) ?_ rfl rfl rfl
    exact (R2.out.row.drewN _).put 6 (.int .i64 9)
  · have e9 : decide ((nl : Int) < kl) = false := by simpa using hkn
    have HW : Hid (wor17 (T1) = { T1 with st := 14 }) := Lib.hid (by unfold wor17; rw [if_neg (by rw [HKL.out.1, HKL.out.2]; exact hkn)])
    clear hkn
    go_step3
    try simp only [Exit.inBlock]
    try simp only [Exit.then]
    refine fwd_goto fol17J1 ?_
    conv => arg 2; whnf
    go_wp2
    go_quiet (fail)
    go_wp2
    go_step3
    go_wp2
    go_ret2
    rw [HE.out, HW.out]
    refine KP17.more S3.out.2.1 S3.out.2.2 R2.out (by repeat (with_reducible (first | exact Only.refl _ _ | refine Only.put17 ?_ _ _ | refine Only.drewN ?_ _))) ?_ rfl rfl rfl
    exact (R2.out.row.drewN _).put 6 (.int .i64 14)

/-- What follow asks of the numbers. -/
structure Fit17 (T : Tk) : Prop where
  st : 1 ≤ T.st ∧ T.st ≤ 14
  R : T.R ≤ 64
  tab : (hs17 T).length ≤ 64
  load : T.load.length ≤ 100

theorem fol17_any (x : Int) (w : World) (r : KAt w k T s vl vg) (h : Fit17 T) :
    Calls Tryd.prog 78 #[.pointer (some ⟨k, 0, none⟩), .int .i64 x] w (KP17 k s (aft17 T x).1 vl vg (ansV17 (aft17 T x).2) w) := by
  obtain ⟨h1, h14⟩ := h.st
  have : T.st = 1 ∨ T.st = 2 ∨ T.st = 3 ∨ T.st = 4 ∨ T.st = 5 ∨ T.st = 6 ∨ T.st = 7 ∨ T.st = 8 ∨ T.st = 9 ∨ T.st = 10 ∨ T.st = 11 ∨ T.st = 12 ∨ T.st = 13 ∨ T.st = 14 := by omega
  rcases this with e | e | e | e | e | e | e | e | e | e | e | e | e | e
  · exact fol17_s1 x w r e
  · exact fol17_s2 x w r e
  · exact fol17_s3 x w r e
  · exact fol17_s4 x w r e
  · exact fol17_s5 x w r e
  · exact fol17_s6 x w r e h.R h.tab
  · exact fol17_s7 x w r e h.tab
  · exact fol17_s8 x w r e
  · exact fol17_s9 x w r e h.load
  · exact fol17_s10 x w r e
  · exact fol17_s11 x w r e
  · exact fol17_s12 x w r e
  · exact fol17_s13 x w r e
  · exact fol17_s14 x w r e

end

#print axioms fol17_any
end Go.Proofs.YtgdbaaoifnedbaaDoor
