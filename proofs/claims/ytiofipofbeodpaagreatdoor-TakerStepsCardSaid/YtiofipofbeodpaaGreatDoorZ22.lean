/-
  Texts merged, with what one theorem needs of them.
  Conditions: those that each theorem states.
-/
import Derived.Test.YtiofipofbeodpaaGreatDoorRows
import Derived.Test.YtiofipofbeodpaaGreatDoorZ1
import Derived.Test.YtiofipofbeodpaaGreatDoorZ2
import Derived.Test.YtiofipofbeodpaaGreatDoorZ3
import Derived.Test.YtiofipofbeodpaaGreatDoorZ4
import Derived.Test.YtiofipofbeodpaaGreatDoorZ5
import Derived.Test.YtiofipofbeodpaaGreatDoorZ6
import Derived.Test.YtiofipofbeodpaaGreatDoorZ7
import Derived.Test.YtiofipofbeodpaaGreatDoorZ8
import Derived.Test.YtiofipofbeodpaaGreatDoorZ9
import Derived.Test.YtiofipofbeodpaaGreatDoorZ10
import Derived.Test.YtiofipofbeodpaaGreatDoorZ11
import Derived.Test.YtiofipofbeodpaaGreatDoorZ12
import Derived.Test.YtiofipofbeodpaaGreatDoorZ13
import Derived.Test.YtiofipofbeodpaaGreatDoorZ14
import Derived.Test.YtiofipofbeodpaaGreatDoorZ15
import Derived.Test.YtiofipofbeodpaaGreatDoorZ16
import Derived.Test.YtiofipofbeodpaaGreatDoorZ17
import Derived.Test.YtiofipofbeodpaaGreatDoorZ18
import Derived.Test.YtiofipofbeodpaaGreatDoorZ19
import Derived.Test.YtiofipofbeodpaaGreatDoorZ20
import Derived.Test.YtiofipofbeodpaaGreatDoorZ21
import Derived.Below
import Derived.BigQuiet
import Derived.Deep.AppendLies
import Derived.Deep.DeepMust
import Derived.Deep.Draws
import Derived.Deep.MidRow
import Derived.Deep.OwnRows
import Derived.Deep.QuietTactic
import Derived.Deep.RegionHeld3
import Derived.Deep.RegionLaw
import Derived.Deep.RegionWith
import Derived.Defers
import Derived.Great.BuildSlice
import Derived.Handy
import Derived.IntWalk
import Derived.KernelRfl
import Derived.LaidLaws
import Derived.LaidMore
import Derived.Laws.BitsLemmas
import Derived.Laws.CopyOwn
import Derived.Laws.OwnMore
import Derived.Laws.Rows
import Derived.Lib.Hide
import Derived.Lib.SliceRun
import Derived.MakeChecks
import Derived.Maps.AppendAt
import Derived.OpenShut
import Derived.OwnWalk
import Derived.ProofKit
import Derived.Recover
import Derived.RegionTactic
import Derived.Scope
import Derived.WalkKit
import Derived.WalkMore
namespace Go.Proofs.YtiofipofbeodpaaGreatDoor

section
open Go.ChangeShapes Go.WideShapes Go.ChangeAt Go.RowKit
/-- The reference's taker in numbers. -/
structure Tv where
  B : Int
  R : Int
  self : Int
  peer : Int
  own : Int
  known : Int
  linked : Bool
  head : Int
  used : Int
  tab : List (Int × Bool)
  at_ : Int
  i : Int
  d : Int
  many : Int
  ans : Int
  handle : Int
  load : List Int
  got : Int
/-- Its cells; the value. -/
def tvC (G : Tv) (vt vl : Value) : List Value :=
  [.int .i64 G.B, .int .i64 G.R, .int .i64 G.self, .int .i64 G.peer, .int .i64 G.own, .int .i64 G.known, .bool G.linked, .int .i64 G.head, .int .i64 G.used, vt, .int .i64 G.at_, .int .i64 G.i, .int .i64 G.d, .int .i64 G.many, .int .i64 G.ans, .int .i64 G.handle, vl, .int .i64 G.got]
def tvV (G : Tv) (vt vl : Value) : Value := .agg (tvC G vt vl).toArray
/-- Its table and its list lie in memory. -/
structure TvL (w : World) (P : Nat → Prop) (G : Tv) (vt vl : Value) : Prop where
  tab : RTab w P G.tab vt
  load : Lies w P vl (ints G.load)
  cl : CapOk vl
theorem TvL.below {w w' : World} {P : Nat → Prop} {G : Tv} {vt vl : Value} (r : TvL w P G vt vl) (hb : Below w.heap.size w w') : TvL w' P G vt vl :=
  ⟨r.tab.below hb, r.load.below hb, r.cl⟩
section
variable {At Al : Option Addr} {nt ct nl cl : Nat}
set_option maxRecDepth 100000 in
set_option maxHeartbeats 1000000 in
theorem rat17_any (G : Tv) (f s i : Int) (hB : 0 ≤ G.B ∧ G.B ≤ 100000) (hR : 0 ≤ G.R ∧ G.R ≤ 64) (w : World) :
    Calls Tryz.prog 61 #[tvV G (.slice At nt ct) (.slice Al nl cl), .int .i64 f, .int .i64 s, .int .i64 i] w fun e w' => e = .returned (.int .i64 (atV13 G.B G.R f s i)) ∧ Below w.heap.size w w' := by
  have KA := Lib.hid (fun W => rat13_any G.B G.R f s i hB hR W)
  clear hB hR
  unfold tvV tvC
  go_enter Tryz.func61, Tryz.ntmps61
  go_wp2_with fail
  refine (KA.out _).mono ?_
  rintro e w' ⟨rfl, rfl⟩
  go_wp2
  go_ret
  exact ⟨rfl, by go_grown⟩
/-- The new variable's cells. -/
def tvZ : List Value := tvC ⟨0, 0, 0, 0, 0, 0, false, 0, 0, [], 0, 0, 0, 0, 0, 0, [], 0⟩ (.slice none 0 0) (.slice none 0 0)
theorem tv_size : (Tryz.prog.info? 37).map (·.size) = some 18 := by kernel_rfl
theorem tv_zero : (Tryz.prog.info? 37).map (·.zero) = some (some (.agg tvZ.toArray)) := by kernel_rfl
theorem tv_struct : isStruct Tryz.prog 37 = true := by kernel_rfl
theorem tv_len (G : Tv) (vt vl : Value) : (tvC G vt vl).length = 18 := rfl
theorem tv_one (G : Tv) : ∀ u ∈ tvC G (.slice At nt ct) (.slice Al nl cl), u.oneCell' = true := by
  intro u hu
  simp [tvC] at hu
  rcases hu with rfl | rfl | rfl | rfl | rfl | rfl | rfl | rfl | rfl | rfl | rfl | rfl | rfl | rfl | rfl | rfl | rfl | rfl <;> rfl
theorem tv_results {fn : Func} {s : Tmp} (h : fn.results = #[.cell s 37]) {tmps : Array Value} {w : World} {b : Nat} (hs : tmps.getD s undef = .pointer (some ⟨b, 0, none⟩)) {G : Tv} {vt vl : Value} (hg : Row w b 37 (tvC G vt vl)) :
    (results fn tmps).run Tryz.prog w = .ok (tvV G vt vl) w := by
  have hl := run_loadVar_cells (P := Tryz.prog) w 37 ⟨b, 0, none⟩ (tvC G vt vl) tv_struct (tv_size.trans (congrArg some (tv_len G vt vl).symm)) (fun j u hu => by rw [Addr.add_lit, Nat.zero_add, hg.cell]; exact hu)
  have hs' : tmps[s]?.getD undef = .pointer (some ⟨b, 0, none⟩) := by simpa using hs
  simp [results, h, hs', hl, asAddr, tvV]
theorem tv_results2 {fn : Func} {s q : Tmp} (h : fn.results = #[.cell s 37, .tmp q]) {tmps : Array Value} {w : World} {b : Nat} (hs : tmps.getD s undef = .pointer (some ⟨b, 0, none⟩)) {G : Tv} {vt vl u : Value} (hq : tmps.getD q undef = u) (hg : Row w b 37 (tvC G vt vl)) :
    (results fn tmps).run Tryz.prog w = .ok (.tuple #[tvV G vt vl, u]) w := by
  have hl := run_loadVar_cells (P := Tryz.prog) w 37 ⟨b, 0, none⟩ (tvC G vt vl) tv_struct (tv_size.trans (congrArg some (tv_len G vt vl).symm)) (fun j u hu => by rw [Addr.add_lit, Nat.zero_add, hg.cell]; exact hu)
  have hs' : tmps[s]?.getD undef = .pointer (some ⟨b, 0, none⟩) := by simpa using hs
  have hq' : tmps[q]?.getD undef = u := by simpa using hq
  simp [results, h, hs', hq', hl, asAddr, tvV]
end
end

section
open Go.ChangeShapes Go.WideShapes Go.ChangeAt Go.RowKit
section
variable {At Al : Option Addr} {nt ct nl cl : Nat}
set_option maxRecDepth 100000 in
set_option maxHeartbeats 1000000 in
theorem tover_any (G : Tv) (x : Int) (w : World) :
    Calls Tryz.prog 66 #[tvV G (.slice At nt ct) (.slice Al nl cl), .int .i64 x] w fun e w' => e = .returned (tvV { G with at_ := 14, ans := x } (.slice At nt ct) (.slice Al nl cl)) ∧ Below w.heap.size w w' := by
  have HSZ := Lib.hid (fun (H : Tv) (a b : Value) => (tv_size.trans (congrArg some (tv_len H a b).symm)))
  have HONE := Lib.hid (tv_one (At := At) (nt := nt) (ct := ct) (Al := Al) (nl := nl) (cl := cl))
  unfold tvV
  go_enter Tryz.func66, Tryz.ntmps66
  go_wp2_with (first
    | ((with_reducible refine box_walk rfl 37 (.tmp 0) rfl (tvC G (.slice At nt ct) (.slice Al nl cl)) rfl ?_); intro w1 r1 b1 z1; have R1 := Lib.hid r1; have B1 := Lib.hid b1; have hlt1 := r1.lt; clear r1 b1 z1)
    | ((with_reducible refine alloc_walk (o := ⟨some 4, _, _, _, _, _⟩) rfl 37 rfl _ tv_zero ?_); go_must (intro w2 r2 b2 z2; have R2 := Lib.hid (R1.out.below b2); have Q2 := Lib.hid r2; have B2 := Lib.hid (below_on B1.out b2); have c10 := R2.out.cell 10; have f10 := R2.out.soft 10; have c14 := R2.out.cell 14; have f14 := R2.out.soft 14; simp only [tvC, List.getElem?_cons_zero, List.getElem?_cons_succ] at c10 c14; have R3 : Hid (Row ((w2.setCell ⟨w.heap.size, 10, none⟩ (.int .i64 14)).setCell ⟨w.heap.size, 14, none⟩ (.int .i64 x)) w.heap.size 37 (tvC { G with at_ := 14, ans := x } (.slice At nt ct) (.slice Al nl cl))) := Lib.hid ((R2.out.put 10 (.int .i64 14)).put 14 (.int .i64 x)); have Q3 : Hid (Row ((w2.setCell ⟨w.heap.size, 10, none⟩ (.int .i64 14)).setCell ⟨w.heap.size, 14, none⟩ (.int .i64 x)) w1.heap.size 37 tvZ) := Lib.hid ((Q2.out.far (p := ⟨w.heap.size, 10, none⟩) (Nat.ne_of_gt hlt1) _).far (p := ⟨w.heap.size, 14, none⟩) (Nat.ne_of_gt hlt1) _); have B3 := Lib.hid ((B2.out.setCell (p := ⟨w.heap.size, 10, none⟩) (Nat.le_refl _) (.int .i64 14)).setCell (p := ⟨w.heap.size, 14, none⟩) (Nat.le_refl _) (.int .i64 x)); clear r2 b2 z2))
    | (with_reducible refine loadRow_walk rfl 37 (.tmp 2) rfl w.heap.size rfl (tvC { G with at_ := 14, ans := x } (.slice At nt ct) (.slice Al nl cl)) tv_struct (HSZ.out _ _ _) 37 R3.out ?_)
    | ((with_reducible refine storeRow_walk rfl 37 (.tmp 4) (.tmp 8) rfl w1.heap.size rfl (tvC { G with at_ := 14, ans := x } (.slice At nt ct) (.slice Al nl cl)) rfl (HSZ.out _ _ _) 37 tvZ Q3.out rfl (HONE.out _) ?_); intro w4 r4 o4 z4; have R4 := Lib.hid r4; have B4 := Lib.hid (Only.below B3.out o4 B3.out.size (fun k hk e => by subst e; omega)); clear r4 o4 z4))
  exact bodyPost_ret (tv_results Tryz.results66 rfl R4.out) rfl ⟨rfl, B4.out⟩
set_option maxRecDepth 100000 in
set_option maxHeartbeats 1000000 in
theorem tbegin_any (G : Tv) (x : Int) (w : World) :
    Calls Tryz.prog 31 #[tvV G (.slice At nt ct) (.slice Al nl cl), .int .i64 x] w fun e w' => e = .returned (tvV { G with at_ := 1, handle := x, load := [], got := 0 } (.slice At nt ct) (.slice none 0 0)) ∧ Below w.heap.size w w' := by
  have HSZ := Lib.hid (fun (H : Tv) (a b : Value) => (tv_size.trans (congrArg some (tv_len H a b).symm)))
  have HONE := Lib.hid (tv_one (At := At) (nt := nt) (ct := ct) (Al := none) (nl := 0) (cl := 0))
  unfold tvV
  go_enter Tryz.func31, Tryz.ntmps31
  go_wp2_with (first
    | ((with_reducible refine box_walk rfl 37 (.tmp 0) rfl (tvC G (.slice At nt ct) (.slice Al nl cl)) rfl ?_); intro w1 r1 b1 z1; have R1 := Lib.hid r1; have B1 := Lib.hid b1; have hlt1 := r1.lt; clear r1 b1 z1)
    | ((with_reducible refine alloc_walk (o := ⟨some 4, _, _, _, _, _⟩) rfl 37 rfl _ tv_zero ?_); go_must (intro w2 r2 b2 z2; have R2 := Lib.hid (R1.out.below b2); have Q2 := Lib.hid r2; have B2 := Lib.hid (below_on B1.out b2); have c10 := R2.out.cell 10; have f10 := R2.out.soft 10; have c15 := R2.out.cell 15; have f15 := R2.out.soft 15; have c16 := R2.out.cell 16; have f16 := R2.out.soft 16; have c17 := R2.out.cell 17; have f17 := R2.out.soft 17; simp only [tvC, List.getElem?_cons_zero, List.getElem?_cons_succ] at c10 c15 c16 c17; have R3 : Hid (Row ((((w2.setCell ⟨w.heap.size, 10, none⟩ (.int .i64 1)).setCell ⟨w.heap.size, 15, none⟩ (.int .i64 x)).setCell ⟨w.heap.size, 16, none⟩ (.slice none 0 0)).setCell ⟨w.heap.size, 17, none⟩ (.int .i64 0)) w.heap.size 37 (tvC { G with at_ := 1, handle := x, load := [], got := 0 } (.slice At nt ct) (.slice none 0 0))) := Lib.hid ((((R2.out.put 10 (.int .i64 1)).put 15 (.int .i64 x)).put 16 (.slice none 0 0)).put 17 (.int .i64 0)); have Q3 : Hid (Row ((((w2.setCell ⟨w.heap.size, 10, none⟩ (.int .i64 1)).setCell ⟨w.heap.size, 15, none⟩ (.int .i64 x)).setCell ⟨w.heap.size, 16, none⟩ (.slice none 0 0)).setCell ⟨w.heap.size, 17, none⟩ (.int .i64 0)) w1.heap.size 37 tvZ) := Lib.hid ((((Q2.out.far (p := ⟨w.heap.size, 10, none⟩) (Nat.ne_of_gt hlt1) _).far (p := ⟨w.heap.size, 15, none⟩) (Nat.ne_of_gt hlt1) _).far (p := ⟨w.heap.size, 16, none⟩) (Nat.ne_of_gt hlt1) _).far (p := ⟨w.heap.size, 17, none⟩) (Nat.ne_of_gt hlt1) _); have B3 := Lib.hid ((((B2.out.setCell (p := ⟨w.heap.size, 10, none⟩) (Nat.le_refl _) (.int .i64 1)).setCell (p := ⟨w.heap.size, 15, none⟩) (Nat.le_refl _) (.int .i64 x)).setCell (p := ⟨w.heap.size, 16, none⟩) (Nat.le_refl _) (.slice none 0 0)).setCell (p := ⟨w.heap.size, 17, none⟩) (Nat.le_refl _) (.int .i64 0)); clear r2 b2 z2))
    | (with_reducible refine loadRow_walk rfl 37 (.tmp 2) rfl w.heap.size rfl (tvC { G with at_ := 1, handle := x, load := [], got := 0 } (.slice At nt ct) (.slice none 0 0)) tv_struct (HSZ.out _ _ _) 37 R3.out ?_)
    | ((with_reducible refine storeRow_walk rfl 37 (.tmp 4) (.tmp 10) rfl w1.heap.size rfl (tvC { G with at_ := 1, handle := x, load := [], got := 0 } (.slice At nt ct) (.slice none 0 0)) rfl (HSZ.out _ _ _) 37 tvZ Q3.out rfl (HONE.out _) ?_); intro w4 r4 o4 z4; have R4 := Lib.hid r4; have B4 := Lib.hid (Only.below B3.out o4 B3.out.size (fun k hk e => by subst e; omega)); clear r4 o4 z4))
  exact bodyPost_ret (tv_results Tryz.results31 rfl R4.out) rfl ⟨rfl, B4.out⟩
set_option maxRecDepth 100000 in
set_option maxHeartbeats 1000000 in
theorem tasked_new (G : Tv) (x : Int) (w : World) (hx : x ≠ G.known) :
    Calls Tryz.prog 63 #[tvV G (.slice At nt ct) (.slice Al nl cl), .int .i64 x] w fun e w' => e = .returned (tvV { G with known := x, at_ := 2 } (.slice At nt ct) (.slice Al nl cl)) ∧ Below w.heap.size w w' := by
  have HSZ := Lib.hid (fun (H : Tv) (a b : Value) => (tv_size.trans (congrArg some (tv_len H a b).symm)))
  have HONE := Lib.hid (tv_one (At := At) (nt := nt) (ct := ct) (Al := Al) (nl := nl) (cl := cl))
  have g1 : (x != G.known) = true := by simpa using hx
  clear hx
  unfold tvV
  go_enter Tryz.func63, Tryz.ntmps63
  go_wp2_with (first
    | ((with_reducible refine box_walk rfl 37 (.tmp 0) rfl (tvC G (.slice At nt ct) (.slice Al nl cl)) rfl ?_); intro w1 r1 b1 z1; have R1 := Lib.hid r1; have B1 := Lib.hid b1; have hlt1 := r1.lt; clear r1 b1 z1)
    | ((with_reducible refine alloc_walk (o := ⟨some 4, _, _, _, _, _⟩) rfl 37 rfl _ tv_zero ?_); go_must (intro w2 r2 b2 z2; have R2 := Lib.hid (R1.out.below b2); have Q2 := Lib.hid r2; have B2 := Lib.hid (below_on B1.out b2); have c5 := R2.out.cell 5; have f5 := R2.out.soft 5; have c10 := R2.out.cell 10; have f10 := R2.out.soft 10; simp only [tvC, List.getElem?_cons_zero, List.getElem?_cons_succ] at c5 c10; have R3 : Hid (Row ((w2.setCell ⟨w.heap.size, 5, none⟩ (.int .i64 x)).setCell ⟨w.heap.size, 10, none⟩ (.int .i64 2)) w.heap.size 37 (tvC { G with known := x, at_ := 2 } (.slice At nt ct) (.slice Al nl cl))) := Lib.hid ((R2.out.put 5 (.int .i64 x)).put 10 (.int .i64 2)); have Q3 : Hid (Row ((w2.setCell ⟨w.heap.size, 5, none⟩ (.int .i64 x)).setCell ⟨w.heap.size, 10, none⟩ (.int .i64 2)) w1.heap.size 37 tvZ) := Lib.hid ((Q2.out.far (p := ⟨w.heap.size, 5, none⟩) (Nat.ne_of_gt hlt1) _).far (p := ⟨w.heap.size, 10, none⟩) (Nat.ne_of_gt hlt1) _); have B3 := Lib.hid ((B2.out.setCell (p := ⟨w.heap.size, 5, none⟩) (Nat.le_refl _) (.int .i64 x)).setCell (p := ⟨w.heap.size, 10, none⟩) (Nat.le_refl _) (.int .i64 2)); clear r2 b2 z2))
    | (with_reducible refine loadRow_walk rfl 37 (.tmp 2) rfl w.heap.size rfl (tvC { G with known := x, at_ := 2 } (.slice At nt ct) (.slice Al nl cl)) tv_struct (HSZ.out _ _ _) 37 R3.out ?_)
    | ((with_reducible refine storeRow_walk rfl 37 (.tmp 4) (.tmp 24) rfl w1.heap.size rfl (tvC { G with known := x, at_ := 2 } (.slice At nt ct) (.slice Al nl cl)) rfl (HSZ.out _ _ _) 37 tvZ Q3.out rfl (HONE.out _) ?_); intro w4 r4 o4 z4; have R4 := Lib.hid r4; have B4 := Lib.hid (Only.below B3.out o4 B3.out.size (fun k hk e => by subst e; omega)); clear r4 o4 z4))
  exact bodyPost_ret (tv_results Tryz.results63 rfl R4.out) rfl ⟨rfl, B4.out⟩
set_option maxRecDepth 100000 in
set_option maxHeartbeats 1000000 in
theorem tasked_link (G : Tv) (x : Int) (w : World) (hx : x = G.known) (hl : G.linked = false) :
    Calls Tryz.prog 63 #[tvV G (.slice At nt ct) (.slice Al nl cl), .int .i64 x] w fun e w' => e = .returned (tvV { G with at_ := 5 } (.slice At nt ct) (.slice Al nl cl)) ∧ Below w.heap.size w w' := by
  have HSZ := Lib.hid (fun (H : Tv) (a b : Value) => (tv_size.trans (congrArg some (tv_len H a b).symm)))
  have HONE := Lib.hid (tv_one (At := At) (nt := nt) (ct := ct) (Al := Al) (nl := nl) (cl := cl))
  have g1 : (x != G.known) = false := by simpa using hx
  have H2 := Lib.hid hl
  clear hx hl
  unfold tvV
  go_enter Tryz.func63, Tryz.ntmps63
  go_wp2_with (first
    | ((with_reducible refine box_walk rfl 37 (.tmp 0) rfl (tvC G (.slice At nt ct) (.slice Al nl cl)) rfl ?_); intro w1 r1 b1 z1; have R1 := Lib.hid r1; have B1 := Lib.hid b1; have hlt1 := r1.lt; clear r1 b1 z1)
    | ((with_reducible refine alloc_walk (o := ⟨some 4, _, _, _, _, _⟩) rfl 37 rfl _ tv_zero ?_); go_must (intro w2 r2 b2 z2; have R2 := Lib.hid (R1.out.below b2); have Q2 := Lib.hid r2; have B2 := Lib.hid (below_on B1.out b2); have c5 := R2.out.cell 5; have f5 := R2.out.soft 5; have c6 := R2.out.cell 6; have f6 := R2.out.soft 6; have c10 := R2.out.cell 10; have f10 := R2.out.soft 10; simp only [tvC, List.getElem?_cons_zero, List.getElem?_cons_succ] at c5 c6 c10; have R3 : Hid (Row (w2.setCell ⟨w.heap.size, 10, none⟩ (.int .i64 5)) w.heap.size 37 (tvC { G with at_ := 5 } (.slice At nt ct) (.slice Al nl cl))) := Lib.hid (R2.out.put 10 (.int .i64 5)); have Q3 : Hid (Row (w2.setCell ⟨w.heap.size, 10, none⟩ (.int .i64 5)) w1.heap.size 37 tvZ) := Lib.hid (Q2.out.far (p := ⟨w.heap.size, 10, none⟩) (Nat.ne_of_gt hlt1) _); have B3 := Lib.hid (B2.out.setCell (p := ⟨w.heap.size, 10, none⟩) (Nat.le_refl _) (.int .i64 5)); rw [H2.out] at c6; clear r2 b2 z2))
    | (with_reducible refine loadRow_walk rfl 37 (.tmp 2) rfl w.heap.size rfl (tvC { G with at_ := 5 } (.slice At nt ct) (.slice Al nl cl)) tv_struct (HSZ.out _ _ _) 37 R3.out ?_)
    | ((with_reducible refine storeRow_walk rfl 37 (.tmp 4) (.tmp 24) rfl w1.heap.size rfl (tvC { G with at_ := 5 } (.slice At nt ct) (.slice Al nl cl)) rfl (HSZ.out _ _ _) 37 tvZ Q3.out rfl (HONE.out _) ?_); intro w4 r4 o4 z4; have R4 := Lib.hid r4; have B4 := Lib.hid (Only.below B3.out o4 B3.out.size (fun k hk e => by subst e; omega)); clear r4 o4 z4))
  exact bodyPost_ret (tv_results Tryz.results63 rfl R4.out) rfl ⟨rfl, B4.out⟩
set_option maxRecDepth 100000 in
set_option maxHeartbeats 1000000 in
theorem tasked_ret (G : Tv) (x : Int) (w : World) (hx : x = G.known) (hl : G.linked = true) (hh : 0 ≤ G.handle) :
    Calls Tryz.prog 63 #[tvV G (.slice At nt ct) (.slice Al nl cl), .int .i64 x] w fun e w' => e = .returned (tvV { G with at_ := 10 } (.slice At nt ct) (.slice Al nl cl)) ∧ Below w.heap.size w w' := by
  have HSZ := Lib.hid (fun (H : Tv) (a b : Value) => (tv_size.trans (congrArg some (tv_len H a b).symm)))
  have HONE := Lib.hid (tv_one (At := At) (nt := nt) (ct := ct) (Al := Al) (nl := nl) (cl := cl))
  have g1 : (x != G.known) = false := by simpa using hx
  have H2 := Lib.hid hl
  have g3 : decide ((0 : Int) ≤ G.handle) = true := decide_eq_true hh
  clear hx hl hh
  unfold tvV
  go_enter Tryz.func63, Tryz.ntmps63
  go_wp2_with (first
    | ((with_reducible refine box_walk rfl 37 (.tmp 0) rfl (tvC G (.slice At nt ct) (.slice Al nl cl)) rfl ?_); intro w1 r1 b1 z1; have R1 := Lib.hid r1; have B1 := Lib.hid b1; have hlt1 := r1.lt; clear r1 b1 z1)
    | ((with_reducible refine alloc_walk (o := ⟨some 4, _, _, _, _, _⟩) rfl 37 rfl _ tv_zero ?_); go_must (intro w2 r2 b2 z2; have R2 := Lib.hid (R1.out.below b2); have Q2 := Lib.hid r2; have B2 := Lib.hid (below_on B1.out b2); have c5 := R2.out.cell 5; have f5 := R2.out.soft 5; have c6 := R2.out.cell 6; have f6 := R2.out.soft 6; have c10 := R2.out.cell 10; have f10 := R2.out.soft 10; have c15 := R2.out.cell 15; have f15 := R2.out.soft 15; simp only [tvC, List.getElem?_cons_zero, List.getElem?_cons_succ] at c5 c6 c10 c15; have R3 : Hid (Row (w2.setCell ⟨w.heap.size, 10, none⟩ (.int .i64 10)) w.heap.size 37 (tvC { G with at_ := 10 } (.slice At nt ct) (.slice Al nl cl))) := Lib.hid (R2.out.put 10 (.int .i64 10)); have Q3 : Hid (Row (w2.setCell ⟨w.heap.size, 10, none⟩ (.int .i64 10)) w1.heap.size 37 tvZ) := Lib.hid (Q2.out.far (p := ⟨w.heap.size, 10, none⟩) (Nat.ne_of_gt hlt1) _); have B3 := Lib.hid (B2.out.setCell (p := ⟨w.heap.size, 10, none⟩) (Nat.le_refl _) (.int .i64 10)); rw [H2.out] at c6; clear r2 b2 z2))
    | (with_reducible refine loadRow_walk rfl 37 (.tmp 2) rfl w.heap.size rfl (tvC { G with at_ := 10 } (.slice At nt ct) (.slice Al nl cl)) tv_struct (HSZ.out _ _ _) 37 R3.out ?_)
    | ((with_reducible refine storeRow_walk rfl 37 (.tmp 4) (.tmp 24) rfl w1.heap.size rfl (tvC { G with at_ := 10 } (.slice At nt ct) (.slice Al nl cl)) rfl (HSZ.out _ _ _) 37 tvZ Q3.out rfl (HONE.out _) ?_); intro w4 r4 o4 z4; have R4 := Lib.hid r4; have B4 := Lib.hid (Only.below B3.out o4 B3.out.size (fun k hk e => by subst e; omega)); clear r4 o4 z4))
  exact bodyPost_ret (tv_results Tryz.results63 rfl R4.out) rfl ⟨rfl, B4.out⟩
set_option maxRecDepth 100000 in
set_option maxHeartbeats 1000000 in
theorem tasked_look (G : Tv) (x : Int) (w : World) (hx : x = G.known) (hl : G.linked = true) (hh : ¬ 0 ≤ G.handle) :
    Calls Tryz.prog 63 #[tvV G (.slice At nt ct) (.slice Al nl cl), .int .i64 x] w fun e w' => e = .returned (tvV { G with at_ := 6 } (.slice At nt ct) (.slice Al nl cl)) ∧ Below w.heap.size w w' := by
  have HSZ := Lib.hid (fun (H : Tv) (a b : Value) => (tv_size.trans (congrArg some (tv_len H a b).symm)))
  have HONE := Lib.hid (tv_one (At := At) (nt := nt) (ct := ct) (Al := Al) (nl := nl) (cl := cl))
  have g1 : (x != G.known) = false := by simpa using hx
  have H2 := Lib.hid hl
  have g3 : decide ((0 : Int) ≤ G.handle) = false := decide_eq_false hh
  clear hx hl hh
  unfold tvV
  go_enter Tryz.func63, Tryz.ntmps63
  go_wp2_with (first
    | ((with_reducible refine box_walk rfl 37 (.tmp 0) rfl (tvC G (.slice At nt ct) (.slice Al nl cl)) rfl ?_); intro w1 r1 b1 z1; have R1 := Lib.hid r1; have B1 := Lib.hid b1; have hlt1 := r1.lt; clear r1 b1 z1)
    | ((with_reducible refine alloc_walk (o := ⟨some 4, _, _, _, _, _⟩) rfl 37 rfl _ tv_zero ?_); go_must (intro w2 r2 b2 z2; have R2 := Lib.hid (R1.out.below b2); have Q2 := Lib.hid r2; have B2 := Lib.hid (below_on B1.out b2); have c5 := R2.out.cell 5; have f5 := R2.out.soft 5; have c6 := R2.out.cell 6; have f6 := R2.out.soft 6; have c10 := R2.out.cell 10; have f10 := R2.out.soft 10; have c15 := R2.out.cell 15; have f15 := R2.out.soft 15; simp only [tvC, List.getElem?_cons_zero, List.getElem?_cons_succ] at c5 c6 c10 c15; have R3 : Hid (Row (w2.setCell ⟨w.heap.size, 10, none⟩ (.int .i64 6)) w.heap.size 37 (tvC { G with at_ := 6 } (.slice At nt ct) (.slice Al nl cl))) := Lib.hid (R2.out.put 10 (.int .i64 6)); have Q3 : Hid (Row (w2.setCell ⟨w.heap.size, 10, none⟩ (.int .i64 6)) w1.heap.size 37 tvZ) := Lib.hid (Q2.out.far (p := ⟨w.heap.size, 10, none⟩) (Nat.ne_of_gt hlt1) _); have B3 := Lib.hid (B2.out.setCell (p := ⟨w.heap.size, 10, none⟩) (Nat.le_refl _) (.int .i64 6)); rw [H2.out] at c6; clear r2 b2 z2))
    | (with_reducible refine loadRow_walk rfl 37 (.tmp 2) rfl w.heap.size rfl (tvC { G with at_ := 6 } (.slice At nt ct) (.slice Al nl cl)) tv_struct (HSZ.out _ _ _) 37 R3.out ?_)
    | ((with_reducible refine storeRow_walk rfl 37 (.tmp 4) (.tmp 24) rfl w1.heap.size rfl (tvC { G with at_ := 6 } (.slice At nt ct) (.slice Al nl cl)) rfl (HSZ.out _ _ _) 37 tvZ Q3.out rfl (HONE.out _) ?_); intro w4 r4 o4 z4; have R4 := Lib.hid r4; have B4 := Lib.hid (Only.below B3.out o4 B3.out.size (fun k hk e => by subst e; omega)); clear r4 o4 z4))
  exact bodyPost_ret (tv_results Tryz.results63 rfl R4.out) rfl ⟨rfl, B4.out⟩
set_option maxRecDepth 100000 in
set_option maxHeartbeats 1000000 in
theorem trecv_busy (G : Tv) (w : World) (h : G.at_ ≠ 0) :
    Calls Tryz.prog 11 #[tvV G (.slice At nt ct) (.slice Al nl cl)] w fun e w' => e = .returned (.tuple #[tvV G (.slice At nt ct) (.slice Al nl cl), .int .i64 11]) ∧ Below w.heap.size w w' := by
  have HSZ := Lib.hid (fun (H : Tv) (a b : Value) => (tv_size.trans (congrArg some (tv_len H a b).symm)))
  have HONE := Lib.hid (tv_one (At := At) (nt := nt) (ct := ct) (Al := Al) (nl := nl) (cl := cl))
  have g1 : (G.at_ != 0) = true := by simpa using h
  clear h
  unfold tvV
  go_enter Tryz.func11, Tryz.ntmps11
  go_wp2_with (first
    | ((with_reducible refine box_walk rfl 37 (.tmp 0) rfl (tvC G (.slice At nt ct) (.slice Al nl cl)) rfl ?_); intro w1 r1 b1 z1; have R1 := Lib.hid r1; have B1 := Lib.hid b1; have hlt1 := r1.lt; clear r1 b1 z1)
    | ((with_reducible refine alloc_walk (o := ⟨some 2, _, _, _, _, _⟩) rfl 37 rfl _ tv_zero ?_); go_must (intro w2 r2 b2 z2; have R2 := Lib.hid (R1.out.below b2); have Q2 := Lib.hid r2; have B2 := Lib.hid (below_on B1.out b2); have c10 := R2.out.cell 10; have f10 := R2.out.soft 10; simp only [tvC, List.getElem?_cons_zero, List.getElem?_cons_succ] at c10; have R3 : Hid (Row w2 w.heap.size 37 (tvC G (.slice At nt ct) (.slice Al nl cl))) := Lib.hid R2.out; have Q3 : Hid (Row w2 w1.heap.size 37 tvZ) := Lib.hid Q2.out; have B3 := Lib.hid B2.out; clear r2 b2 z2))
    | (with_reducible refine loadRow_walk rfl 37 (.tmp 1) rfl w.heap.size rfl (tvC G (.slice At nt ct) (.slice Al nl cl)) tv_struct (HSZ.out _ _ _) 37 R3.out ?_)
    | ((with_reducible refine storeRow_walk rfl 37 (.tmp 2) (.tmp 7) rfl w1.heap.size rfl (tvC G (.slice At nt ct) (.slice Al nl cl)) rfl (HSZ.out _ _ _) 37 tvZ Q3.out rfl (HONE.out _) ?_); intro w4 r4 o4 z4; have R4 := Lib.hid r4; have B4 := Lib.hid (Only.below B3.out o4 B3.out.size (fun k hk e => by subst e; omega)); clear r4 o4 z4))
  exact bodyPost_ret (tv_results2 Tryz.results11 rfl rfl R4.out) rfl ⟨rfl, B4.out⟩
set_option maxRecDepth 100000 in
set_option maxHeartbeats 1000000 in
theorem trecv_ok (G : Tv) (w : World) (h : G.at_ = 0) :
    Calls Tryz.prog 11 #[tvV G (.slice At nt ct) (.slice Al nl cl)] w fun e w' => e = .returned (.tuple #[tvV { G with at_ := 1, handle := -1, load := [], got := 0 } (.slice At nt ct) (.slice none 0 0), .int .i64 0]) ∧ Below w.heap.size w w' := by
  have HSZ := Lib.hid (fun (H : Tv) (a b : Value) => (tv_size.trans (congrArg some (tv_len H a b).symm)))
  have HONE := Lib.hid (tv_one (At := At) (nt := nt) (ct := ct) (Al := none) (nl := 0) (cl := 0))
  have g1 : (G.at_ != 0) = false := by simpa using h
  clear h
  have KO := Lib.hid (fun W => tbegin_any (At := At) (nt := nt) (ct := ct) (Al := Al) (nl := nl) (cl := cl) G (-1) W)
  unfold tvV at KO
  unfold tvV
  go_enter Tryz.func11, Tryz.ntmps11
  go_wp2_with (first
    | ((with_reducible refine box_walk rfl 37 (.tmp 0) rfl (tvC G (.slice At nt ct) (.slice Al nl cl)) rfl ?_); intro w1 r1 b1 z1; have R1 := Lib.hid r1; have B1 := Lib.hid b1; have hlt1 := r1.lt; clear r1 b1 z1)
    | ((with_reducible refine alloc_walk (o := ⟨some 2, _, _, _, _, _⟩) rfl 37 rfl _ tv_zero ?_); go_must (intro w2 r2 b2 z2; have R2 := Lib.hid (R1.out.below b2); have Q2 := Lib.hid r2; have B2 := Lib.hid (below_on B1.out b2); have c10 := R2.out.cell 10; have f10 := R2.out.soft 10; simp only [tvC, List.getElem?_cons_zero, List.getElem?_cons_succ] at c10; have R3 : Hid (Row w2 w.heap.size 37 (tvC G (.slice At nt ct) (.slice Al nl cl))) := Lib.hid R2.out; have Q3 : Hid (Row w2 w1.heap.size 37 tvZ) := Lib.hid Q2.out; have B3 := Lib.hid B2.out; clear r2 b2 z2))
    | (with_reducible refine loadRow_walk rfl 37 (.tmp 1) rfl w.heap.size rfl (tvC G (.slice At nt ct) (.slice Al nl cl)) tv_struct (HSZ.out _ _ _) 37 R3.out ?_)
    | (go_at_call 31; refine (KO.out _).mono ?_; rintro e w8 ⟨rfl, b8⟩; have Q8 := Lib.hid (Q3.out.below b8); have B8 := Lib.hid (below_on B3.out b8); clear b8)
    | ((with_reducible refine storeRow_walk rfl 37 (.tmp 2) (.tmp 9) rfl w1.heap.size rfl (tvC { G with at_ := 1, handle := -1, load := [], got := 0 } (.slice At nt ct) (.slice none 0 0)) rfl (HSZ.out _ _ _) 37 tvZ Q8.out rfl (HONE.out _) ?_); intro w4 r4 o4 z4; have R4 := Lib.hid r4; have B4 := Lib.hid (Only.below B8.out o4 B8.out.size (fun k hk e => by subst e; omega)); clear r4 o4 z4))
  exact bodyPost_ret (tv_results2 Tryz.results11 rfl rfl R4.out) rfl ⟨rfl, B4.out⟩
end
end

section
open Go.ChangeShapes Go.WideShapes Go.ChangeAt Go.RowKit
/-- What a call of the reference's taker leaves: its taker by itself; with a number beside it. -/
def TVP (P : Nat → Prop) (G : Tv) (w : World) (e : Ending) (w' : World) : Prop :=
  ∃ At nt ct Al nl cl, e = .returned (tvV G (.slice At nt ct) (.slice Al nl cl)) ∧ TvL w' (fun x => P x ∨ w.heap.size ≤ x) G (.slice At nt ct) (.slice Al nl cl) ∧ Below w.heap.size w w'
def TVA (P : Nat → Prop) (G : Tv) (n : Int) (w : World) (e : Ending) (w' : World) : Prop :=
  ∃ At nt ct Al nl cl, e = .returned (.tuple #[tvV G (.slice At nt ct) (.slice Al nl cl), .int .i64 n]) ∧ TvL w' (fun x => P x ∨ w.heap.size ≤ x) G (.slice At nt ct) (.slice Al nl cl) ∧ Below w.heap.size w w'
theorem TvL.weak {w : World} {P Q : Nat → Prop} {G : Tv} {vt vl : Value} (r : TvL w P G vt vl) (h : ∀ x, x < w.heap.size → P x → Q x) : TvL w Q G vt vl := ⟨r.tab.weak h, r.load.weak h, r.cl⟩
theorem TvL.only {S : Nat → Prop} {w w' : World} {P : Nat → Prop} {G : Tv} {vt vl : Value} (r : TvL w P G vt vl) (ho : Only S w w') (h : ∀ x, S x → ¬ P x) : TvL w' P G vt vl := ⟨r.tab.only ho h, r.load.only ho h, r.cl⟩
theorem cap_nil : CapOk (.slice none 0 0) := by simp [CapOk]
section
variable {At Al : Option Addr} {nt ct nl cl : Nat}
set_option maxRecDepth 100000 in
set_option maxHeartbeats 1000000 in
theorem trel_busy (G : Tv) (h : Int) (w : World) (hb : G.at_ ≠ 0) :
    Calls Tryz.prog 14 #[tvV G (.slice At nt ct) (.slice Al nl cl), .int .i64 h] w fun e w' => e = .returned (.tuple #[tvV G (.slice At nt ct) (.slice Al nl cl), .int .i64 11]) ∧ Below w.heap.size w w' := by
  have HSZ := Lib.hid (fun (H : Tv) (a b : Value) => (tv_size.trans (congrArg some (tv_len H a b).symm)))
  have HONE := Lib.hid (tv_one (At := At) (nt := nt) (ct := ct) (Al := Al) (nl := nl) (cl := cl))
  have g1 : (G.at_ != 0) = true := by simpa using hb
  clear hb
  unfold tvV
  go_enter Tryz.func14, Tryz.ntmps14
  go_wp2_with (first
    | ((with_reducible refine box_walk rfl 37 (.tmp 0) rfl (tvC G (.slice At nt ct) (.slice Al nl cl)) rfl ?_); intro w1 r1 b1 z1; have R1 := Lib.hid r1; have B1 := Lib.hid b1; have hlt1 := r1.lt; clear r1 b1 z1)
    | ((with_reducible refine alloc_walk (o := ⟨some 4, _, _, _, _, _⟩) rfl 37 rfl _ tv_zero ?_); go_must (intro w2 r2 b2 z2; have R2 := Lib.hid (R1.out.below b2); have Q2 := Lib.hid r2; have B2 := Lib.hid (below_on B1.out b2); have c10 := R2.out.cell 10; have f10 := R2.out.soft 10; simp only [tvC, List.getElem?_cons_zero, List.getElem?_cons_succ] at c10; have R3 : Hid (Row w2 w.heap.size 37 (tvC G (.slice At nt ct) (.slice Al nl cl))) := Lib.hid R2.out; have Q3 : Hid (Row w2 w1.heap.size 37 tvZ) := Lib.hid Q2.out; have B3 := Lib.hid B2.out; clear r2 b2 z2))
    | (with_reducible refine loadRow_walk rfl 37 (.tmp 2) rfl w.heap.size rfl (tvC G (.slice At nt ct) (.slice Al nl cl)) tv_struct (HSZ.out _ _ _) 37 R3.out ?_)
    | ((with_reducible refine storeRow_walk rfl 37 (.tmp 4) (.tmp 11) rfl w1.heap.size rfl (tvC G (.slice At nt ct) (.slice Al nl cl)) rfl (HSZ.out _ _ _) 37 tvZ Q3.out rfl (HONE.out _) ?_); intro w4 r4 o4 z4; have R4 := Lib.hid r4; have B4 := Lib.hid (Only.below B3.out o4 B3.out.size (fun k hk e => by subst e; omega)); clear r4 o4 z4))
  exact bodyPost_ret (tv_results2 Tryz.results14 rfl rfl R4.out) rfl ⟨rfl, B4.out⟩
set_option maxRecDepth 100000 in
set_option maxHeartbeats 1000000 in
theorem trel_no (P : Nat → Prop) (G : Tv) (h : Int) (w : World) (hb : G.at_ = 0) (r : RTab w P G.tab (.slice At nt ct)) (h64 : G.tab.length ≤ 64) (wd : Wd15 G.tab) (hs : slotB15 G.tab h = false) :
    Calls Tryz.prog 14 #[tvV G (.slice At nt ct) (.slice Al nl cl), .int .i64 h] w fun e w' => e = .returned (.tuple #[tvV G (.slice At nt ct) (.slice Al nl cl), .int .i64 7]) ∧ Below w.heap.size w w' := by
  have HSZ := Lib.hid (fun (H : Tv) (a b : Value) => (tv_size.trans (congrArg some (tv_len H a b).symm)))
  have HONE := Lib.hid (tv_one (At := At) (nt := nt) (ct := ct) (Al := Al) (nl := nl) (cl := cl))
  have g1 : (G.at_ != 0) = false := by simpa using hb
  have KS := Lib.hid (fun W (hb : Below w.heap.size w W) => rslot15_any P _ G.tab h W (r.below hb) h64 wd)
  rw [hs] at KS
  clear hb r hs
  unfold tvV
  go_enter Tryz.func14, Tryz.ntmps14
  go_wp2_with (first
    | ((with_reducible refine box_walk rfl 37 (.tmp 0) rfl (tvC G (.slice At nt ct) (.slice Al nl cl)) rfl ?_); intro w1 r1 b1 z1; have R1 := Lib.hid r1; have B1 := Lib.hid b1; have hlt1 := r1.lt; clear r1 b1 z1)
    | ((with_reducible refine alloc_walk (o := ⟨some 4, _, _, _, _, _⟩) rfl 37 rfl _ tv_zero ?_); go_must (intro w2 r2 b2 z2; have R2 := Lib.hid (R1.out.below b2); have Q2 := Lib.hid r2; have B2 := Lib.hid (below_on B1.out b2); have c9 := R2.out.cell 9; have f9 := R2.out.soft 9; have c10 := R2.out.cell 10; have f10 := R2.out.soft 10; simp only [tvC, List.getElem?_cons_zero, List.getElem?_cons_succ] at c9 c10; have R3 : Hid (Row w2 w.heap.size 37 (tvC G (.slice At nt ct) (.slice Al nl cl))) := Lib.hid R2.out; have Q3 : Hid (Row w2 w1.heap.size 37 tvZ) := Lib.hid Q2.out; have B3 := Lib.hid B2.out; clear r2 b2 z2))
    | (go_at_call 34; refine (KS.out _ B3.out).mono ?_; rintro e w7 ⟨rfl, rfl⟩)
    | (with_reducible refine loadRow_walk rfl 37 (.tmp 2) rfl w.heap.size rfl (tvC G (.slice At nt ct) (.slice Al nl cl)) tv_struct (HSZ.out _ _ _) 37 R3.out ?_)
    | ((with_reducible refine storeRow_walk rfl 37 (.tmp 4) (.tmp 21) rfl w1.heap.size rfl (tvC G (.slice At nt ct) (.slice Al nl cl)) rfl (HSZ.out _ _ _) 37 tvZ Q3.out rfl (HONE.out _) ?_); intro w4 r4 o4 z4; have R4 := Lib.hid r4; have B4 := Lib.hid (Only.below B3.out o4 B3.out.size (fun k hk e => by subst e; omega)); clear r4 o4 z4))
  exact bodyPost_ret (tv_results2 Tryz.results14 rfl rfl R4.out) rfl ⟨rfl, B4.out⟩
set_option maxRecDepth 100000 in
set_option maxHeartbeats 2000000 in
theorem trel_ok (P : Nat → Prop) (G : Tv) (h : Int) (w : World) (hb : G.at_ = 0) (r : RTab w P G.tab (.slice At nt ct)) (h64 : G.tab.length ≤ 64) (wd : Wd15 G.tab) (hs : slotB15 G.tab h = true) :
    Calls Tryz.prog 14 #[tvV G (.slice At nt ct) (.slice Al nl cl), .int .i64 h] w (TVA P { G with tab := dropL15 G.tab h, d := slotV15 G.tab h, at_ := 1, handle := h, load := [], got := 0 } 0 w) := by
  have HSZ := Lib.hid (fun (H : Tv) (a b : Value) => (tv_size.trans (congrArg some (tv_len H a b).symm)))
  have g1 : (G.at_ != 0) = false := by simpa using hb
  have KS := Lib.hid (fun W (hb : Below w.heap.size w W) => rslot15_any P _ G.tab h W (r.below hb) h64 wd)
  rw [hs] at KS
  have KD := Lib.hid (fun W (hb : Below w.heap.size w W) => rdrop15_any (fun x => (P x ∧ x < w.heap.size) ∨ W.heap.size ≤ x) _ G.tab h W (((r.weak (fun _ hg p => And.intro p hg)).below hb).weak (fun g _ hg => .inl hg)) h64 wd (fun b hx => .inr hx))
  have KO := Lib.hid (fun A n c (H : Tv) W => tbegin_any (At := A) (nt := n) (ct := c) (Al := Al) (nl := nl) (cl := cl) H h W)
  unfold tvV at KO
  clear hb r hs
  unfold tvV
  go_enter Tryz.func14, Tryz.ntmps14
  go_wp2_with (first
    | ((with_reducible refine box_walk rfl 37 (.tmp 0) rfl (tvC G (.slice At nt ct) (.slice Al nl cl)) rfl ?_); intro w1 r1 b1 z1; have R1 := Lib.hid r1; have B1 := Lib.hid b1; have hlt1 := r1.lt; clear r1 b1 z1)
    | ((with_reducible refine alloc_walk (o := ⟨some 4, _, _, _, _, _⟩) rfl 37 rfl _ tv_zero ?_); go_must (intro w2 r2 b2 z2; have R2 := Lib.hid (R1.out.below b2); have Q2 := Lib.hid r2; have B2 := Lib.hid (below_on B1.out b2); have hlt2 := r2.lt; have c9 := R2.out.cell 9; have f9 := R2.out.soft 9; have c10 := R2.out.cell 10; have f10 := R2.out.soft 10; simp only [tvC, List.getElem?_cons_zero, List.getElem?_cons_succ] at c9 c10; have OM0 : Hid (Only (fun k => k = w.heap.size) w2 w2) := Lib.hid (Only.refl (fun k => k = w.heap.size) w2); have RM0 : Hid (Row w2 w.heap.size 37 (tvC G (.slice At nt ct) (.slice Al nl cl))) := Lib.hid R2.out; have QM0 : Hid (Row w2 w1.heap.size 37 tvZ) := Lib.hid Q2.out; have BM0 : Hid (Below w.heap.size w w2) := Lib.hid B2.out; clear r2 b2 z2))
    | (go_at_call 34; refine (KS.out _ BM0.out).mono ?_; rintro e w7 ⟨rfl, rfl⟩)
    | (go_at_call 35; refine (KD.out _ BM0.out).mono ?_; rintro e w7 ⟨v7, rfl, t7, b7⟩; go_must (obtain ⟨A7, n7, k7, rfl, HN7, T7⟩ := t7.open_; have HONE := Lib.hid (tv_one (At := A7) (nt := n7) (ct := k7) (Al := none) (nl := 0) (cl := 0)); clear HN7 t7; have R1x := Lib.hid (RM0.out.below b7); have Q1x := Lib.hid (QM0.out.below b7); have B1x := Lib.hid (below_on BM0.out b7); have NB1 := Lib.hid b7; clear c9 f9 c10 f10; have c9 := R1x.out.cell 9; have f9 := R1x.out.soft 9; have c12 := R1x.out.cell 12; have f12 := R1x.out.soft 12; simp only [tvC, List.getElem?_cons_zero, List.getElem?_cons_succ] at c9 c12; have OM1 : Hid (Only (fun k => k = w.heap.size) w7 ((w7.setCell ⟨w.heap.size, 9, none⟩ (.slice A7 n7 k7)).setCell ⟨w.heap.size, 12, none⟩ (.int .i64 (slotV15 G.tab h)))) := Lib.hid (((Only.refl (fun k => k = w.heap.size) w7).put17 9 (.slice A7 n7 k7)).put17 12 (.int .i64 (slotV15 G.tab h))); have RM1 : Hid (Row ((w7.setCell ⟨w.heap.size, 9, none⟩ (.slice A7 n7 k7)).setCell ⟨w.heap.size, 12, none⟩ (.int .i64 (slotV15 G.tab h))) w.heap.size 37 (tvC { G with tab := dropL15 G.tab h, d := slotV15 G.tab h } (.slice A7 n7 k7) (.slice Al nl cl))) := Lib.hid ((R1x.out.put 9 (.slice A7 n7 k7)).put 12 (.int .i64 (slotV15 G.tab h))); have QM1 : Hid (Row ((w7.setCell ⟨w.heap.size, 9, none⟩ (.slice A7 n7 k7)).setCell ⟨w.heap.size, 12, none⟩ (.int .i64 (slotV15 G.tab h))) w1.heap.size 37 tvZ) := Lib.hid ((Q1x.out.far (p := ⟨w.heap.size, 9, none⟩) (Nat.ne_of_gt hlt1) (.slice A7 n7 k7)).far (p := ⟨w.heap.size, 12, none⟩) (Nat.ne_of_gt hlt1) (.int .i64 (slotV15 G.tab h))); have BM1 : Hid (Below w.heap.size w ((w7.setCell ⟨w.heap.size, 9, none⟩ (.slice A7 n7 k7)).setCell ⟨w.heap.size, 12, none⟩ (.int .i64 (slotV15 G.tab h)))) := Lib.hid ((B1x.out.setCell (p := ⟨w.heap.size, 9, none⟩) (Nat.le_refl _) (.slice A7 n7 k7)).setCell (p := ⟨w.heap.size, 12, none⟩) (Nat.le_refl _) (.int .i64 (slotV15 G.tab h))); clear b7))
    | (with_reducible refine loadRow_walk rfl 37 (.tmp 2) rfl w.heap.size rfl (tvC { G with tab := dropL15 G.tab h, d := slotV15 G.tab h } (.slice A7 n7 k7) (.slice Al nl cl)) tv_struct (HSZ.out _ _ _) 37 RM1.out ?_)
    | (go_at_call 31; refine (KO.out A7 n7 k7 _ _).mono ?_; rintro e w8 ⟨rfl, b8⟩; go_must (have R2x := Lib.hid (RM1.out.below b8); have Q2x := Lib.hid (QM1.out.below b8); have B2x := Lib.hid (below_on BM1.out b8); have NB2 := Lib.hid b8; clear c9 f9 c12 f12; have OM2 : Hid (Only (fun k => k = w.heap.size) w8 w8) := Lib.hid (Only.refl (fun k => k = w.heap.size) w8); have RM2 : Hid (Row w8 w.heap.size 37 (tvC { G with tab := dropL15 G.tab h, d := slotV15 G.tab h } (.slice A7 n7 k7) (.slice Al nl cl))) := Lib.hid R2x.out; have QM2 : Hid (Row w8 w1.heap.size 37 tvZ) := Lib.hid Q2x.out; have BM2 : Hid (Below w.heap.size w w8) := Lib.hid B2x.out; clear b8))
    | ((with_reducible refine storeRow_walk rfl 37 (.tmp 4) (.tmp 34) rfl w1.heap.size rfl (tvC { G with tab := dropL15 G.tab h, d := slotV15 G.tab h, at_ := 1, handle := h, load := [], got := 0 } (.slice A7 n7 k7) (.slice none 0 0)) rfl (HSZ.out _ _ _) 37 tvZ QM2.out rfl (HONE.out _) ?_); intro w9 r9 o9 z9; have R9 := Lib.hid r9; have B9 := Lib.hid (Only.below BM2.out o9 BM2.out.size (fun k hk e => by subst e; omega)); have O9 := Lib.hid o9; clear r9 o9 z9))
  have hb2 := BM0.out.size
  have hb3 := OM0.out.size
  have ht := (((T7.out.only OM1.out (fun g hg p => by subst hg; rcases p with p | p <;> omega)).below NB2.out).only O9.out (fun g hg p => by subst hg; rcases p with p | p <;> omega)).weak (Q := fun x => P x ∨ w.heap.size ≤ x) (fun g _ p => p.imp (·.1) (fun p => by omega))
  exact bodyPost_ret (tv_results2 Tryz.results14 rfl rfl R9.out) rfl ⟨_, _, _, _, _, _, rfl, ⟨ht, Lies.nil_ _ _, cap_nil⟩, B9.out⟩
set_option maxRecDepth 100000 in
set_option maxHeartbeats 1000000 in
theorem tend_bad (G : Tv) (w : World) (h : G.ans ≠ 0) :
    Calls Tryz.prog 67 #[tvV G (.slice At nt ct) (.slice Al nl cl)] w fun e w' => e = .returned (tvV { G with load := [] } (.slice At nt ct) (.slice none 0 0)) ∧ Below w.heap.size w w' := by
  have HSZ := Lib.hid (fun (H : Tv) (a b : Value) => (tv_size.trans (congrArg some (tv_len H a b).symm)))
  have HONE := Lib.hid (tv_one (At := At) (nt := nt) (ct := ct) (Al := none) (nl := 0) (cl := 0))
  have g1 : (G.ans != 0) = true := by simpa using h
  clear h
  unfold tvV
  go_enter Tryz.func67, Tryz.ntmps67
  go_wp2_with (first
    | ((with_reducible refine box_walk rfl 37 (.tmp 0) rfl (tvC G (.slice At nt ct) (.slice Al nl cl)) rfl ?_); intro w1 r1 b1 z1; have R1 := Lib.hid r1; have B1 := Lib.hid b1; have hlt1 := r1.lt; clear r1 b1 z1)
    | ((with_reducible refine alloc_walk (o := ⟨some 2, _, _, _, _, _⟩) rfl 37 rfl _ tv_zero ?_); go_must (intro w2 r2 b2 z2; have R2 := Lib.hid (R1.out.below b2); have Q2 := Lib.hid r2; have B2 := Lib.hid (below_on B1.out b2); have c14 := R2.out.cell 14; have f14 := R2.out.soft 14; have c16 := R2.out.cell 16; have f16 := R2.out.soft 16; simp only [tvC, List.getElem?_cons_zero, List.getElem?_cons_succ] at c14 c16; have R3 : Hid (Row (w2.setCell ⟨w.heap.size, 16, none⟩ (.slice none 0 0)) w.heap.size 37 (tvC { G with load := [] } (.slice At nt ct) (.slice none 0 0))) := Lib.hid (R2.out.put 16 (.slice none 0 0)); have Q3 : Hid (Row (w2.setCell ⟨w.heap.size, 16, none⟩ (.slice none 0 0)) w1.heap.size 37 tvZ) := Lib.hid (Q2.out.far (p := ⟨w.heap.size, 16, none⟩) (Nat.ne_of_gt hlt1) _); have B3 := Lib.hid (B2.out.setCell (p := ⟨w.heap.size, 16, none⟩) (Nat.le_refl _) (.slice none 0 0)); clear r2 b2 z2))
    | (with_reducible refine loadRow_walk rfl 37 (.tmp 1) rfl w.heap.size rfl (tvC { G with load := [] } (.slice At nt ct) (.slice none 0 0)) tv_struct (HSZ.out _ _ _) 37 R3.out ?_)
    | ((with_reducible refine storeRow_walk rfl 37 (.tmp 2) (.tmp 7) rfl w1.heap.size rfl (tvC { G with load := [] } (.slice At nt ct) (.slice none 0 0)) rfl (HSZ.out _ _ _) 37 tvZ Q3.out rfl (HONE.out _) ?_); intro w4 r4 o4 z4; have R4 := Lib.hid r4; have B4 := Lib.hid (Only.below B3.out o4 B3.out.size (fun k hk e => by subst e; omega)); clear r4 o4 z4))
  exact bodyPost_ret (tv_results Tryz.results67 rfl R4.out) rfl ⟨rfl, B4.out⟩
set_option maxRecDepth 100000 in
set_option maxHeartbeats 1000000 in
theorem tend_rel (G : Tv) (w : World) (h : G.ans = 0) (hh : 0 ≤ G.handle) :
    Calls Tryz.prog 67 #[tvV G (.slice At nt ct) (.slice Al nl cl)] w fun e w' => e = .returned (tvV { G with used := addW G.used 1 } (.slice At nt ct) (.slice Al nl cl)) ∧ Below w.heap.size w w' := by
  have HSZ := Lib.hid (fun (H : Tv) (a b : Value) => (tv_size.trans (congrArg some (tv_len H a b).symm)))
  have HONE := Lib.hid (tv_one (At := At) (nt := nt) (ct := ct) (Al := Al) (nl := nl) (cl := cl))
  have g1 : (G.ans != 0) = false := by simpa using h
  have g3 : decide ((0 : Int) ≤ G.handle) = true := decide_eq_true hh
  have KAD := Lib.hid (fun W => radd_any G.used 1 W)
  clear h hh
  unfold tvV
  go_enter Tryz.func67, Tryz.ntmps67
  go_wp2_with (first
    | ((with_reducible refine box_walk rfl 37 (.tmp 0) rfl (tvC G (.slice At nt ct) (.slice Al nl cl)) rfl ?_); intro w1 r1 b1 z1; have R1 := Lib.hid r1; have B1 := Lib.hid b1; have hlt1 := r1.lt; clear r1 b1 z1)
    | ((with_reducible refine alloc_walk (o := ⟨some 2, _, _, _, _, _⟩) rfl 37 rfl _ tv_zero ?_); go_must (intro w2 r2 b2 z2; have R2 := Lib.hid (R1.out.below b2); have Q2 := Lib.hid r2; have B2 := Lib.hid (below_on B1.out b2); have c8 := R2.out.cell 8; have f8 := R2.out.soft 8; have c14 := R2.out.cell 14; have f14 := R2.out.soft 14; have c15 := R2.out.cell 15; have f15 := R2.out.soft 15; simp only [tvC, List.getElem?_cons_zero, List.getElem?_cons_succ] at c8 c14 c15; have R3 : Hid (Row (w2.setCell ⟨w.heap.size, 8, none⟩ (.int .i64 (addW G.used 1))) w.heap.size 37 (tvC { G with used := addW G.used 1 } (.slice At nt ct) (.slice Al nl cl))) := Lib.hid (R2.out.put 8 (.int .i64 (addW G.used 1))); have Q3 : Hid (Row (w2.setCell ⟨w.heap.size, 8, none⟩ (.int .i64 (addW G.used 1))) w1.heap.size 37 tvZ) := Lib.hid (Q2.out.far (p := ⟨w.heap.size, 8, none⟩) (Nat.ne_of_gt hlt1) _); have B3 := Lib.hid (B2.out.setCell (p := ⟨w.heap.size, 8, none⟩) (Nat.le_refl _) (.int .i64 (addW G.used 1))); clear r2 b2 z2))
    | (go_at_call 62; refine (KAD.out _).mono ?_; rintro e w7 ⟨rfl, rfl⟩)
    | (with_reducible refine loadRow_walk rfl 37 (.tmp 1) rfl w.heap.size rfl (tvC { G with used := addW G.used 1 } (.slice At nt ct) (.slice Al nl cl)) tv_struct (HSZ.out _ _ _) 37 R3.out ?_)
    | ((with_reducible refine storeRow_walk rfl 37 (.tmp 2) (.tmp 15) rfl w1.heap.size rfl (tvC { G with used := addW G.used 1 } (.slice At nt ct) (.slice Al nl cl)) rfl (HSZ.out _ _ _) 37 tvZ Q3.out rfl (HONE.out _) ?_); intro w4 r4 o4 z4; have R4 := Lib.hid r4; have B4 := Lib.hid (Only.below B3.out o4 B3.out.size (fun k hk e => by subst e; omega)); clear r4 o4 z4))
  exact bodyPost_ret (tv_results Tryz.results67 rfl R4.out) rfl ⟨rfl, B4.out⟩
set_option maxRecDepth 100000 in
set_option maxHeartbeats 2000000 in
theorem tend_give (P : Nat → Prop) (G : Tv) (w : World) (h : G.ans = 0) (hh : ¬ 0 ≤ G.handle) (r : TvL w P G (.slice At nt ct) (.slice Al nl cl)) (h64 : G.tab.length ≤ 64) :
    Calls Tryz.prog 67 #[tvV G (.slice At nt ct) (.slice Al nl cl)] w (TVP P { G with head := addW G.head 1, tab := giveL15 G.tab G.d, got := giveV15 G.tab G.d } w) := by
  have HSZ := Lib.hid (fun (H : Tv) (a b : Value) => (tv_size.trans (congrArg some (tv_len H a b).symm)))
  have g1 : (G.ans != 0) = false := by simpa using h
  have g3 : decide ((0 : Int) ≤ G.handle) = false := decide_eq_false hh
  have KAD := Lib.hid (fun W => radd_any G.head 1 W)
  have KG := Lib.hid (fun W (hb : Below w.heap.size w W) => rgive15_any (fun x => (P x ∧ x < w.heap.size) ∨ W.heap.size ≤ x) _ G.tab G.d W (((r.tab.weak (fun _ hg p => And.intro p hg)).below hb).weak (fun g _ hg => .inl hg)) h64 (fun b hx => .inr hx))
  have LO := Lib.hid (r.load.weak (fun _ hg p => And.intro p hg))
  have CL := Lib.hid r.cl
  clear h hh r
  unfold tvV
  go_enter Tryz.func67, Tryz.ntmps67
  go_wp2_with (first
    | ((with_reducible refine box_walk rfl 37 (.tmp 0) rfl (tvC G (.slice At nt ct) (.slice Al nl cl)) rfl ?_); intro w1 r1 b1 z1; have R1 := Lib.hid r1; have B1 := Lib.hid b1; have hlt1 := r1.lt; clear r1 b1 z1)
    | ((with_reducible refine alloc_walk (o := ⟨some 2, _, _, _, _, _⟩) rfl 37 rfl _ tv_zero ?_); go_must (intro w2 r2 b2 z2; have R2 := Lib.hid (R1.out.below b2); have Q2 := Lib.hid r2; have B2 := Lib.hid (below_on B1.out b2); have hlt2 := r2.lt; have c7 := R2.out.cell 7; have f7 := R2.out.soft 7; have c9 := R2.out.cell 9; have f9 := R2.out.soft 9; have c12 := R2.out.cell 12; have f12 := R2.out.soft 12; have c14 := R2.out.cell 14; have f14 := R2.out.soft 14; have c15 := R2.out.cell 15; have f15 := R2.out.soft 15; simp only [tvC, List.getElem?_cons_zero, List.getElem?_cons_succ] at c7 c9 c12 c14 c15; have OM0 : Hid (Only (fun k => k = w.heap.size) w2 (w2.setCell ⟨w.heap.size, 7, none⟩ (.int .i64 (addW G.head 1)))) := Lib.hid ((Only.refl (fun k => k = w.heap.size) w2).put17 7 (.int .i64 (addW G.head 1))); have RM0 : Hid (Row (w2.setCell ⟨w.heap.size, 7, none⟩ (.int .i64 (addW G.head 1))) w.heap.size 37 (tvC { G with head := addW G.head 1 } (.slice At nt ct) (.slice Al nl cl))) := Lib.hid (R2.out.put 7 (.int .i64 (addW G.head 1))); have QM0 : Hid (Row (w2.setCell ⟨w.heap.size, 7, none⟩ (.int .i64 (addW G.head 1))) w1.heap.size 37 tvZ) := Lib.hid (Q2.out.far (p := ⟨w.heap.size, 7, none⟩) (Nat.ne_of_gt hlt1) (.int .i64 (addW G.head 1))); have BM0 : Hid (Below w.heap.size w (w2.setCell ⟨w.heap.size, 7, none⟩ (.int .i64 (addW G.head 1)))) := Lib.hid (B2.out.setCell (p := ⟨w.heap.size, 7, none⟩) (Nat.le_refl _) (.int .i64 (addW G.head 1))); clear r2 b2 z2))
    | (go_at_call 62; refine (KAD.out _).mono ?_; rintro e w7 ⟨rfl, rfl⟩)
    | (go_at_call 83; refine (KG.out _ BM0.out).mono ?_; rintro e w7 ⟨v7, rfl, t7, b7⟩; go_must (obtain ⟨A7, n7, k7, rfl, HN7, T7⟩ := t7.open_; have HONE := Lib.hid (tv_one (At := A7) (nt := n7) (ct := k7) (Al := Al) (nl := nl) (cl := cl)); clear HN7 t7; have R1x := Lib.hid (RM0.out.below b7); have Q1x := Lib.hid (QM0.out.below b7); have B1x := Lib.hid (below_on BM0.out b7); have NB1 := Lib.hid b7; clear c7 f7 c9 f9 c12 f12 c14 f14 c15 f15; have c9 := R1x.out.cell 9; have f9 := R1x.out.soft 9; have c17 := R1x.out.cell 17; have f17 := R1x.out.soft 17; simp only [tvC, List.getElem?_cons_zero, List.getElem?_cons_succ] at c9 c17; have OM1 : Hid (Only (fun k => k = w.heap.size) w7 ((w7.setCell ⟨w.heap.size, 9, none⟩ (.slice A7 n7 k7)).setCell ⟨w.heap.size, 17, none⟩ (.int .i64 (giveV15 G.tab G.d)))) := Lib.hid (((Only.refl (fun k => k = w.heap.size) w7).put17 9 (.slice A7 n7 k7)).put17 17 (.int .i64 (giveV15 G.tab G.d))); have RM1 : Hid (Row ((w7.setCell ⟨w.heap.size, 9, none⟩ (.slice A7 n7 k7)).setCell ⟨w.heap.size, 17, none⟩ (.int .i64 (giveV15 G.tab G.d))) w.heap.size 37 (tvC { G with head := addW G.head 1, tab := giveL15 G.tab G.d, got := giveV15 G.tab G.d } (.slice A7 n7 k7) (.slice Al nl cl))) := Lib.hid ((R1x.out.put 9 (.slice A7 n7 k7)).put 17 (.int .i64 (giveV15 G.tab G.d))); have QM1 : Hid (Row ((w7.setCell ⟨w.heap.size, 9, none⟩ (.slice A7 n7 k7)).setCell ⟨w.heap.size, 17, none⟩ (.int .i64 (giveV15 G.tab G.d))) w1.heap.size 37 tvZ) := Lib.hid ((Q1x.out.far (p := ⟨w.heap.size, 9, none⟩) (Nat.ne_of_gt hlt1) (.slice A7 n7 k7)).far (p := ⟨w.heap.size, 17, none⟩) (Nat.ne_of_gt hlt1) (.int .i64 (giveV15 G.tab G.d))); have BM1 : Hid (Below w.heap.size w ((w7.setCell ⟨w.heap.size, 9, none⟩ (.slice A7 n7 k7)).setCell ⟨w.heap.size, 17, none⟩ (.int .i64 (giveV15 G.tab G.d)))) := Lib.hid ((B1x.out.setCell (p := ⟨w.heap.size, 9, none⟩) (Nat.le_refl _) (.slice A7 n7 k7)).setCell (p := ⟨w.heap.size, 17, none⟩) (Nat.le_refl _) (.int .i64 (giveV15 G.tab G.d))); clear b7))
    | (with_reducible refine loadRow_walk rfl 37 (.tmp 1) rfl w.heap.size rfl (tvC { G with head := addW G.head 1, tab := giveL15 G.tab G.d, got := giveV15 G.tab G.d } (.slice A7 n7 k7) (.slice Al nl cl)) tv_struct (HSZ.out _ _ _) 37 RM1.out ?_)
    | ((with_reducible refine storeRow_walk rfl 37 (.tmp 2) (.tmp 31) rfl w1.heap.size rfl (tvC { G with head := addW G.head 1, tab := giveL15 G.tab G.d, got := giveV15 G.tab G.d } (.slice A7 n7 k7) (.slice Al nl cl)) rfl (HSZ.out _ _ _) 37 tvZ QM1.out rfl (HONE.out _) ?_); intro w9 r9 o9 z9; have R9 := Lib.hid r9; have B9 := Lib.hid (Only.below BM1.out o9 BM1.out.size (fun k hk e => by subst e; omega)); have O9 := Lib.hid o9; clear r9 o9 z9))
  have hb2 := BM0.out.size
  have hb3 := OM0.out.size
  have ht := ((T7.out.only OM1.out (fun g hg p => by subst hg; rcases p with p | p <;> omega)).only O9.out (fun g hg p => by subst hg; rcases p with p | p <;> omega)).weak (Q := fun x => P x ∨ w.heap.size ≤ x) (fun g _ p => p.imp (·.1) (fun p => by omega))
  have hl := (LO.out.below B9.out).weak (Q := fun x => P x ∨ w.heap.size ≤ x) (fun g _ p => .inl p.1)
  exact bodyPost_ret (tv_results Tryz.results67 rfl R9.out) rfl ⟨_, _, _, _, _, _, rfl, ⟨ht, hl, CL.out⟩, B9.out⟩
end
end

section
open Go.ChangeShapes Go.WideShapes Go.ChangeAt Go.RowKit
/-- The taker behind ASK. -/
def askT (G : Tv) (x : Int) : Tv :=
  if x ≠ G.known then { G with known := x, at_ := 2 } else if G.linked = false then { G with at_ := 5 } else if 0 ≤ G.handle then { G with at_ := 10 } else { G with at_ := 6 }
section
variable {At Al : Option Addr} {nt ct nl cl : Nat}
theorem tasked_any (G : Tv) (x : Int) (w : World) :
    Calls Tryz.prog 63 #[tvV G (.slice At nt ct) (.slice Al nl cl), .int .i64 x] w fun e w' => e = .returned (tvV (askT G x) (.slice At nt ct) (.slice Al nl cl)) ∧ Below w.heap.size w w' := by
  unfold askT
  by_cases hx : x = G.known
  · rw [if_neg (fun h => h hx)]
    by_cases hl : G.linked = false
    · rw [if_pos hl]; exact tasked_link G x w hx hl
    · rw [if_neg hl]
      have hl' : G.linked = true := by simpa using hl
      by_cases hh : 0 ≤ G.handle
      · rw [if_pos hh]; exact tasked_ret G x w hx hl' hh
      · rw [if_neg hh]; exact tasked_look G x w hx hl' hh
  · rw [if_pos hx]; exact tasked_new G x w hx
set_option maxRecDepth 100000 in
set_option maxHeartbeats 1000000 in
theorem taft_ask (G : Tv) (x : Int) (w : World) (h : G.at_ = 1) :
    Calls Tryz.prog 40 #[tvV G (.slice At nt ct) (.slice Al nl cl), .int .i64 x] w fun e w' => e = .returned (.tuple #[tvV (askT G x) (.slice At nt ct) (.slice Al nl cl), .int .i64 (-1)]) ∧ Below w.heap.size w w' := by
  have HSZ := Lib.hid (fun (H : Tv) (a b : Value) => (tv_size.trans (congrArg some (tv_len H a b).symm)))
  have HONE := Lib.hid (tv_one (At := At) (nt := nt) (ct := ct) (Al := Al) (nl := nl) (cl := cl))
  have H1 := Lib.hid h
  clear h
  have KO := Lib.hid (fun W => tasked_any (At := At) (nt := nt) (ct := ct) (Al := Al) (nl := nl) (cl := cl) G x W)
  unfold tvV at KO
  unfold tvV
  go_enter Tryz.func40, Tryz.ntmps40
  go_wp2_with (first
    | ((with_reducible refine box_walk rfl 37 (.tmp 0) rfl (tvC G (.slice At nt ct) (.slice Al nl cl)) rfl ?_); intro w1 r1 b1 z1; have R1 := Lib.hid r1; have B1 := Lib.hid b1; have hlt1 := r1.lt; clear r1 b1 z1)
    | ((with_reducible refine alloc_walk (o := ⟨some 4, _, _, _, _, _⟩) rfl 37 rfl _ tv_zero ?_); go_must (intro w2 r2 b2 z2; have R2 := Lib.hid (R1.out.below b2); have Q2 := Lib.hid r2; have B2 := Lib.hid (below_on B1.out b2); have c10 := R2.out.cell 10; have f10 := R2.out.soft 10; simp only [tvC, List.getElem?_cons_zero, List.getElem?_cons_succ] at c10; have R3 : Hid (Row w2 w.heap.size 37 (tvC G (.slice At nt ct) (.slice Al nl cl))) := Lib.hid R2.out; have Q3 : Hid (Row w2 w1.heap.size 37 tvZ) := Lib.hid Q2.out; have B3 := Lib.hid B2.out; rw [H1.out] at c10; clear r2 b2 z2))
    | (with_reducible refine loadRow_walk rfl 37 (.tmp 2) rfl w.heap.size rfl (tvC G (.slice At nt ct) (.slice Al nl cl)) tv_struct (HSZ.out _ _ _) 37 R3.out ?_)
    | (go_at_call 63; refine (KO.out _).mono ?_; rintro e w8 ⟨rfl, b8⟩; have Q8 := Lib.hid (Q3.out.below b8); have B8 := Lib.hid (below_on B3.out b8); clear b8)
    | ((with_reducible refine storeRow_walk rfl 37 (.tmp 4) (.tmp 13) rfl w1.heap.size rfl (tvC (askT G x) (.slice At nt ct) (.slice Al nl cl)) rfl (HSZ.out _ _ _) 37 tvZ Q8.out rfl (HONE.out _) ?_); intro w4 r4 o4 z4; have R4 := Lib.hid r4; have B4 := Lib.hid (Only.below B8.out o4 B8.out.size (fun k hk e => by subst e; omega)); clear r4 o4 z4))
  exact bodyPost_ret (tv_results2 Tryz.results40 rfl rfl R4.out) rfl ⟨rfl, B4.out⟩
set_option maxRecDepth 100000 in
set_option maxHeartbeats 1000000 in
theorem taft_flush (G : Tv) (x : Int) (w : World) (h : G.at_ = 13) :
    Calls Tryz.prog 40 #[tvV G (.slice At nt ct) (.slice Al nl cl), .int .i64 x] w fun e w' => e = .returned (.tuple #[tvV { G with at_ := 14, ans := 0 } (.slice At nt ct) (.slice Al nl cl), .int .i64 (-1)]) ∧ Below w.heap.size w w' := by
  have HSZ := Lib.hid (fun (H : Tv) (a b : Value) => (tv_size.trans (congrArg some (tv_len H a b).symm)))
  have HONE := Lib.hid (tv_one (At := At) (nt := nt) (ct := ct) (Al := Al) (nl := nl) (cl := cl))
  have H1 := Lib.hid h
  clear h
  have KO := Lib.hid (fun W => tover_any (At := At) (nt := nt) (ct := ct) (Al := Al) (nl := nl) (cl := cl) G 0 W)
  unfold tvV at KO
  unfold tvV
  go_enter Tryz.func40, Tryz.ntmps40
  go_wp2_with (first
    | ((with_reducible refine box_walk rfl 37 (.tmp 0) rfl (tvC G (.slice At nt ct) (.slice Al nl cl)) rfl ?_); intro w1 r1 b1 z1; have R1 := Lib.hid r1; have B1 := Lib.hid b1; have hlt1 := r1.lt; clear r1 b1 z1)
    | ((with_reducible refine alloc_walk (o := ⟨some 4, _, _, _, _, _⟩) rfl 37 rfl _ tv_zero ?_); go_must (intro w2 r2 b2 z2; have R2 := Lib.hid (R1.out.below b2); have Q2 := Lib.hid r2; have B2 := Lib.hid (below_on B1.out b2); have c10 := R2.out.cell 10; have f10 := R2.out.soft 10; simp only [tvC, List.getElem?_cons_zero, List.getElem?_cons_succ] at c10; have R3 : Hid (Row w2 w.heap.size 37 (tvC G (.slice At nt ct) (.slice Al nl cl))) := Lib.hid R2.out; have Q3 : Hid (Row w2 w1.heap.size 37 tvZ) := Lib.hid Q2.out; have B3 := Lib.hid B2.out; rw [H1.out] at c10; clear r2 b2 z2))
    | (with_reducible refine loadRow_walk rfl 37 (.tmp 2) rfl w.heap.size rfl (tvC G (.slice At nt ct) (.slice Al nl cl)) tv_struct (HSZ.out _ _ _) 37 R3.out ?_)
    | (go_at_call 66; refine (KO.out _).mono ?_; rintro e w8 ⟨rfl, b8⟩; have Q8 := Lib.hid (Q3.out.below b8); have B8 := Lib.hid (below_on B3.out b8); clear b8)
    | ((with_reducible refine storeRow_walk rfl 37 (.tmp 4) (.tmp 60) rfl w1.heap.size rfl (tvC { G with at_ := 14, ans := 0 } (.slice At nt ct) (.slice Al nl cl)) rfl (HSZ.out _ _ _) 37 tvZ Q8.out rfl (HONE.out _) ?_); intro w4 r4 o4 z4; have R4 := Lib.hid r4; have B4 := Lib.hid (Only.below B8.out o4 B8.out.size (fun k hk e => by subst e; omega)); clear r4 o4 z4))
  exact bodyPost_ret (tv_results2 Tryz.results40 rfl rfl R4.out) rfl ⟨rfl, B4.out⟩
set_option maxRecDepth 100000 in
set_option maxHeartbeats 1000000 in
theorem taft_down (G : Tv) (x : Int) (w : World) (h : G.at_ = 5) (hx : x ≠ addW G.own G.known) :
    Calls Tryz.prog 40 #[tvV G (.slice At nt ct) (.slice Al nl cl), .int .i64 x] w fun e w' => e = .returned (.tuple #[tvV { G with at_ := 0 } (.slice At nt ct) (.slice Al nl cl), .int .i64 9]) ∧ Below w.heap.size w w' := by
  have HSZ := Lib.hid (fun (H : Tv) (a b : Value) => (tv_size.trans (congrArg some (tv_len H a b).symm)))
  have HONE := Lib.hid (tv_one (At := At) (nt := nt) (ct := ct) (Al := Al) (nl := nl) (cl := cl))
  have H1 := Lib.hid h
  have g1 : (x != addW G.own G.known) = true := by simpa using hx
  have KAD := Lib.hid (fun W => radd_any G.own G.known W)
  clear h hx
  unfold tvV
  go_enter Tryz.func40, Tryz.ntmps40
  go_wp2_with (first
    | ((with_reducible refine box_walk rfl 37 (.tmp 0) rfl (tvC G (.slice At nt ct) (.slice Al nl cl)) rfl ?_); intro w1 r1 b1 z1; have R1 := Lib.hid r1; have B1 := Lib.hid b1; have hlt1 := r1.lt; clear r1 b1 z1)
    | ((with_reducible refine alloc_walk (o := ⟨some 4, _, _, _, _, _⟩) rfl 37 rfl _ tv_zero ?_); go_must (intro w2 r2 b2 z2; have R2 := Lib.hid (R1.out.below b2); have Q2 := Lib.hid r2; have B2 := Lib.hid (below_on B1.out b2); have c4 := R2.out.cell 4; have f4 := R2.out.soft 4; have c5 := R2.out.cell 5; have f5 := R2.out.soft 5; have c10 := R2.out.cell 10; have f10 := R2.out.soft 10; simp only [tvC, List.getElem?_cons_zero, List.getElem?_cons_succ] at c4 c5 c10; have R3 : Hid (Row (w2.setCell ⟨w.heap.size, 10, none⟩ (.int .i64 0)) w.heap.size 37 (tvC { G with at_ := 0 } (.slice At nt ct) (.slice Al nl cl))) := Lib.hid (R2.out.put 10 (.int .i64 0)); have Q3 : Hid (Row (w2.setCell ⟨w.heap.size, 10, none⟩ (.int .i64 0)) w1.heap.size 37 tvZ) := Lib.hid (Q2.out.far (p := ⟨w.heap.size, 10, none⟩) (Nat.ne_of_gt hlt1) _); have B3 := Lib.hid (B2.out.setCell (p := ⟨w.heap.size, 10, none⟩) (Nat.le_refl _) (.int .i64 0)); rw [H1.out] at c10; clear r2 b2 z2))
    | (go_at_call 62; refine (KAD.out _).mono ?_; rintro e w7 ⟨rfl, rfl⟩)
    | (with_reducible refine loadRow_walk rfl 37 (.tmp 2) rfl w.heap.size rfl (tvC { G with at_ := 0 } (.slice At nt ct) (.slice Al nl cl)) tv_struct (HSZ.out _ _ _) 37 R3.out ?_)
    | ((with_reducible refine storeRow_walk rfl 37 (.tmp 4) (.tmp 45) rfl w1.heap.size rfl (tvC { G with at_ := 0 } (.slice At nt ct) (.slice Al nl cl)) rfl (HSZ.out _ _ _) 37 tvZ Q3.out rfl (HONE.out _) ?_); intro w4 r4 o4 z4; have R4 := Lib.hid r4; have B4 := Lib.hid (Only.below B3.out o4 B3.out.size (fun k hk e => by subst e; omega)); clear r4 o4 z4))
  exact bodyPost_ret (tv_results2 Tryz.results40 rfl rfl R4.out) rfl ⟨rfl, B4.out⟩
set_option maxRecDepth 100000 in
set_option maxHeartbeats 1000000 in
theorem taft_link (G : Tv) (x : Int) (w : World) (h : G.at_ = 5) (hx : x = addW G.own G.known) :
    Calls Tryz.prog 40 #[tvV G (.slice At nt ct) (.slice Al nl cl), .int .i64 x] w fun e w' => e = .returned (.tuple #[tvV { G with linked := true, at_ := 6 } (.slice At nt ct) (.slice Al nl cl), .int .i64 (-1)]) ∧ Below w.heap.size w w' := by
  have HSZ := Lib.hid (fun (H : Tv) (a b : Value) => (tv_size.trans (congrArg some (tv_len H a b).symm)))
  have HONE := Lib.hid (tv_one (At := At) (nt := nt) (ct := ct) (Al := Al) (nl := nl) (cl := cl))
  have H1 := Lib.hid h
  have g1 : (x != addW G.own G.known) = false := by simpa using hx
  have KAD := Lib.hid (fun W => radd_any G.own G.known W)
  clear h hx
  unfold tvV
  go_enter Tryz.func40, Tryz.ntmps40
  go_wp2_with (first
    | ((with_reducible refine box_walk rfl 37 (.tmp 0) rfl (tvC G (.slice At nt ct) (.slice Al nl cl)) rfl ?_); intro w1 r1 b1 z1; have R1 := Lib.hid r1; have B1 := Lib.hid b1; have hlt1 := r1.lt; clear r1 b1 z1)
    | ((with_reducible refine alloc_walk (o := ⟨some 4, _, _, _, _, _⟩) rfl 37 rfl _ tv_zero ?_); go_must (intro w2 r2 b2 z2; have R2 := Lib.hid (R1.out.below b2); have Q2 := Lib.hid r2; have B2 := Lib.hid (below_on B1.out b2); have c4 := R2.out.cell 4; have f4 := R2.out.soft 4; have c5 := R2.out.cell 5; have f5 := R2.out.soft 5; have c6 := R2.out.cell 6; have f6 := R2.out.soft 6; have c10 := R2.out.cell 10; have f10 := R2.out.soft 10; simp only [tvC, List.getElem?_cons_zero, List.getElem?_cons_succ] at c4 c5 c6 c10; have R3 : Hid (Row ((w2.setCell ⟨w.heap.size, 6, none⟩ (.bool true)).setCell ⟨w.heap.size, 10, none⟩ (.int .i64 6)) w.heap.size 37 (tvC { G with linked := true, at_ := 6 } (.slice At nt ct) (.slice Al nl cl))) := Lib.hid ((R2.out.put 6 (.bool true)).put 10 (.int .i64 6)); have Q3 : Hid (Row ((w2.setCell ⟨w.heap.size, 6, none⟩ (.bool true)).setCell ⟨w.heap.size, 10, none⟩ (.int .i64 6)) w1.heap.size 37 tvZ) := Lib.hid ((Q2.out.far (p := ⟨w.heap.size, 6, none⟩) (Nat.ne_of_gt hlt1) _).far (p := ⟨w.heap.size, 10, none⟩) (Nat.ne_of_gt hlt1) _); have B3 := Lib.hid ((B2.out.setCell (p := ⟨w.heap.size, 6, none⟩) (Nat.le_refl _) (.bool true)).setCell (p := ⟨w.heap.size, 10, none⟩) (Nat.le_refl _) (.int .i64 6)); rw [H1.out] at c10; clear r2 b2 z2))
    | (go_at_call 62; refine (KAD.out _).mono ?_; rintro e w7 ⟨rfl, rfl⟩)
    | (with_reducible refine loadRow_walk rfl 37 (.tmp 2) rfl w.heap.size rfl (tvC { G with linked := true, at_ := 6 } (.slice At nt ct) (.slice Al nl cl)) tv_struct (HSZ.out _ _ _) 37 R3.out ?_)
    | ((with_reducible refine storeRow_walk rfl 37 (.tmp 4) (.tmp 48) rfl w1.heap.size rfl (tvC { G with linked := true, at_ := 6 } (.slice At nt ct) (.slice Al nl cl)) rfl (HSZ.out _ _ _) 37 tvZ Q3.out rfl (HONE.out _) ?_); intro w4 r4 o4 z4; have R4 := Lib.hid r4; have B4 := Lib.hid (Only.below B3.out o4 B3.out.size (fun k hk e => by subst e; omega)); clear r4 o4 z4))
  exact bodyPost_ret (tv_results2 Tryz.results40 rfl rfl R4.out) rfl ⟨rfl, B4.out⟩
set_option maxRecDepth 100000 in
set_option maxHeartbeats 1000000 in
theorem taft_reset (G : Tv) (x : Int) (w : World) (h : G.at_ = 14) (hx : x ≠ G.known) :
    Calls Tryz.prog 40 #[tvV G (.slice At nt ct) (.slice Al nl cl), .int .i64 x] w fun e w' => e = .returned (.tuple #[tvV { G with at_ := 0, load := [] } (.slice At nt ct) (.slice none 0 0), .int .i64 8]) ∧ Below w.heap.size w w' := by
  have HSZ := Lib.hid (fun (H : Tv) (a b : Value) => (tv_size.trans (congrArg some (tv_len H a b).symm)))
  have HONE := Lib.hid (tv_one (At := At) (nt := nt) (ct := ct) (Al := none) (nl := 0) (cl := 0))
  have H1 := Lib.hid h
  have g1 : (x != G.known) = true := by simpa using hx
  clear h hx
  unfold tvV
  go_enter Tryz.func40, Tryz.ntmps40
  go_wp2_with (first
    | ((with_reducible refine box_walk rfl 37 (.tmp 0) rfl (tvC G (.slice At nt ct) (.slice Al nl cl)) rfl ?_); intro w1 r1 b1 z1; have R1 := Lib.hid r1; have B1 := Lib.hid b1; have hlt1 := r1.lt; clear r1 b1 z1)
    | ((with_reducible refine alloc_walk (o := ⟨some 4, _, _, _, _, _⟩) rfl 37 rfl _ tv_zero ?_); go_must (intro w2 r2 b2 z2; have R2 := Lib.hid (R1.out.below b2); have Q2 := Lib.hid r2; have B2 := Lib.hid (below_on B1.out b2); have c5 := R2.out.cell 5; have f5 := R2.out.soft 5; have c10 := R2.out.cell 10; have f10 := R2.out.soft 10; have c16 := R2.out.cell 16; have f16 := R2.out.soft 16; simp only [tvC, List.getElem?_cons_zero, List.getElem?_cons_succ] at c5 c10 c16; have R3 : Hid (Row ((w2.setCell ⟨w.heap.size, 10, none⟩ (.int .i64 0)).setCell ⟨w.heap.size, 16, none⟩ (.slice none 0 0)) w.heap.size 37 (tvC { G with at_ := 0, load := [] } (.slice At nt ct) (.slice none 0 0))) := Lib.hid ((R2.out.put 10 (.int .i64 0)).put 16 (.slice none 0 0)); have Q3 : Hid (Row ((w2.setCell ⟨w.heap.size, 10, none⟩ (.int .i64 0)).setCell ⟨w.heap.size, 16, none⟩ (.slice none 0 0)) w1.heap.size 37 tvZ) := Lib.hid ((Q2.out.far (p := ⟨w.heap.size, 10, none⟩) (Nat.ne_of_gt hlt1) _).far (p := ⟨w.heap.size, 16, none⟩) (Nat.ne_of_gt hlt1) _); have B3 := Lib.hid ((B2.out.setCell (p := ⟨w.heap.size, 10, none⟩) (Nat.le_refl _) (.int .i64 0)).setCell (p := ⟨w.heap.size, 16, none⟩) (Nat.le_refl _) (.slice none 0 0)); rw [H1.out] at c10; clear r2 b2 z2))
    | (with_reducible refine loadRow_walk rfl 37 (.tmp 2) rfl w.heap.size rfl (tvC { G with at_ := 0, load := [] } (.slice At nt ct) (.slice none 0 0)) tv_struct (HSZ.out _ _ _) 37 R3.out ?_)
    | ((with_reducible refine storeRow_walk rfl 37 (.tmp 4) (.tmp 69) rfl w1.heap.size rfl (tvC { G with at_ := 0, load := [] } (.slice At nt ct) (.slice none 0 0)) rfl (HSZ.out _ _ _) 37 tvZ Q3.out rfl (HONE.out _) ?_); intro w4 r4 o4 z4; have R4 := Lib.hid r4; have B4 := Lib.hid (Only.below B3.out o4 B3.out.size (fun k hk e => by subst e; omega)); clear r4 o4 z4))
  exact bodyPost_ret (tv_results2 Tryz.results40 rfl rfl R4.out) rfl ⟨rfl, B4.out⟩
set_option maxRecDepth 100000 in
set_option maxHeartbeats 1000000 in
theorem taft_next (G : Tv) (x : Int) (w : World) (h : 0 ≤ G.at_ ∧ G.at_ ≤ 15) (n1 : (G.at_ == 1) = false) (n4 : (G.at_ == 4) = false) (n5 : (G.at_ == 5) = false) (n6 : (G.at_ == 6) = false) (n7 : (G.at_ == 7) = false) (n8 : (G.at_ == 8) = false) (n9 : (G.at_ == 9) = false) (n13 : (G.at_ == 13) = false) (n14 : (G.at_ == 14) = false) :
    Calls Tryz.prog 40 #[tvV G (.slice At nt ct) (.slice Al nl cl), .int .i64 x] w fun e w' => e = .returned (.tuple #[tvV { G with at_ := G.at_ + 1 } (.slice At nt ct) (.slice Al nl cl), .int .i64 (-1)]) ∧ Below w.heap.size w w' := by
  have HSZ := Lib.hid (fun (H : Tv) (a b : Value) => (tv_size.trans (congrArg some (tv_len H a b).symm)))
  have HONE := Lib.hid (tv_one (At := At) (nt := nt) (ct := ct) (Al := Al) (nl := nl) (cl := cl))
  have d1 : IntKind.i64.wrap (G.at_ + 1) = G.at_ + 1 := IntWalk.i64_in _ (by omega)
  clear h
  unfold tvV
  go_enter Tryz.func40, Tryz.ntmps40
  go_wp2_with (first
    | ((with_reducible refine box_walk rfl 37 (.tmp 0) rfl (tvC G (.slice At nt ct) (.slice Al nl cl)) rfl ?_); intro w1 r1 b1 z1; have R1 := Lib.hid r1; have B1 := Lib.hid b1; have hlt1 := r1.lt; clear r1 b1 z1)
    | ((with_reducible refine alloc_walk (o := ⟨some 4, _, _, _, _, _⟩) rfl 37 rfl _ tv_zero ?_); go_must (intro w2 r2 b2 z2; have R2 := Lib.hid (R1.out.below b2); have Q2 := Lib.hid r2; have B2 := Lib.hid (below_on B1.out b2); have c10 := R2.out.cell 10; have f10 := R2.out.soft 10; simp only [tvC, List.getElem?_cons_zero, List.getElem?_cons_succ] at c10; have R3 : Hid (Row (w2.setCell ⟨w.heap.size, 10, none⟩ (.int .i64 (G.at_ + 1))) w.heap.size 37 (tvC { G with at_ := G.at_ + 1 } (.slice At nt ct) (.slice Al nl cl))) := Lib.hid (R2.out.put 10 (.int .i64 (G.at_ + 1))); have Q3 : Hid (Row (w2.setCell ⟨w.heap.size, 10, none⟩ (.int .i64 (G.at_ + 1))) w1.heap.size 37 tvZ) := Lib.hid (Q2.out.far (p := ⟨w.heap.size, 10, none⟩) (Nat.ne_of_gt hlt1) _); have B3 := Lib.hid (B2.out.setCell (p := ⟨w.heap.size, 10, none⟩) (Nat.le_refl _) (.int .i64 (G.at_ + 1))); clear r2 b2 z2))
    | (with_reducible refine loadRow_walk rfl 37 (.tmp 2) rfl w.heap.size rfl (tvC { G with at_ := G.at_ + 1 } (.slice At nt ct) (.slice Al nl cl)) tv_struct (HSZ.out _ _ _) 37 R3.out ?_)
    | ((with_reducible refine storeRow_walk rfl 37 (.tmp 4) (.tmp 78) rfl w1.heap.size rfl (tvC { G with at_ := G.at_ + 1 } (.slice At nt ct) (.slice Al nl cl)) rfl (HSZ.out _ _ _) 37 tvZ Q3.out rfl (HONE.out _) ?_); intro w4 r4 o4 z4; have R4 := Lib.hid r4; have B4 := Lib.hid (Only.below B3.out o4 B3.out.size (fun k hk e => by subst e; omega)); clear r4 o4 z4))
  exact bodyPost_ret (tv_results2 Tryz.results40 rfl rfl R4.out) rfl ⟨rfl, B4.out⟩
end
end

section
open Go.ChangeShapes Go.WideShapes Go.ChangeAt Go.RowKit
section
variable {At Al : Option Addr} {nt ct nl cl : Nat}
set_option maxRecDepth 100000 in
set_option maxHeartbeats 1000000 in
theorem tread_empty (G : Tv) (x : Int) (w : World) (h : G.at_ = 6) (h0 : subW x G.head = 0) :
    Calls Tryz.prog 65 #[tvV G (.slice At nt ct) (.slice Al nl cl), .int .i64 x] w fun e w' => e = .returned (tvV { G with at_ := 14, ans := 6 } (.slice At nt ct) (.slice Al nl cl)) ∧ Below w.heap.size w w' := by
  have HSZ := Lib.hid (fun (H : Tv) (a b : Value) => (tv_size.trans (congrArg some (tv_len H a b).symm)))
  have HONE := Lib.hid (tv_one (At := At) (nt := nt) (ct := ct) (Al := Al) (nl := nl) (cl := cl))
  have H1 := Lib.hid h
  have g1 : (subW x G.head == 0) = true := by simpa using h0
  have KSB := Lib.hid (fun W => rsub_any x G.head W)
  clear h h0
  have KO := Lib.hid (fun W => tover_any (At := At) (nt := nt) (ct := ct) (Al := Al) (nl := nl) (cl := cl) G 6 W)
  unfold tvV at KO
  unfold tvV
  go_enter Tryz.func65, Tryz.ntmps65
  go_wp2_with (first
    | ((with_reducible refine box_walk rfl 37 (.tmp 0) rfl (tvC G (.slice At nt ct) (.slice Al nl cl)) rfl ?_); intro w1 r1 b1 z1; have R1 := Lib.hid r1; have B1 := Lib.hid b1; have hlt1 := r1.lt; clear r1 b1 z1)
    | ((with_reducible refine alloc_walk (o := ⟨some 4, _, _, _, _, _⟩) rfl 37 rfl _ tv_zero ?_); go_must (intro w2 r2 b2 z2; have R2 := Lib.hid (R1.out.below b2); have Q2 := Lib.hid r2; have B2 := Lib.hid (below_on B1.out b2); have c7 := R2.out.cell 7; have f7 := R2.out.soft 7; have c10 := R2.out.cell 10; have f10 := R2.out.soft 10; simp only [tvC, List.getElem?_cons_zero, List.getElem?_cons_succ] at c7 c10; have R3 : Hid (Row w2 w.heap.size 37 (tvC G (.slice At nt ct) (.slice Al nl cl))) := Lib.hid R2.out; have Q3 : Hid (Row w2 w1.heap.size 37 tvZ) := Lib.hid Q2.out; have B3 := Lib.hid B2.out; rw [H1.out] at c10; clear r2 b2 z2))
    | (go_at_call 82; refine (KSB.out _).mono ?_; rintro e w7 ⟨rfl, rfl⟩)
    | (with_reducible refine loadRow_walk rfl 37 (.tmp 2) rfl w.heap.size rfl (tvC G (.slice At nt ct) (.slice Al nl cl)) tv_struct (HSZ.out _ _ _) 37 R3.out ?_)
    | (go_at_call 66; refine (KO.out _).mono ?_; rintro e w8 ⟨rfl, b8⟩; have Q8 := Lib.hid (Q3.out.below b8); have B8 := Lib.hid (below_on B3.out b8); clear b8)
    | ((with_reducible refine storeRow_walk rfl 37 (.tmp 4) (.tmp 18) rfl w1.heap.size rfl (tvC { G with at_ := 14, ans := 6 } (.slice At nt ct) (.slice Al nl cl)) rfl (HSZ.out _ _ _) 37 tvZ Q8.out rfl (HONE.out _) ?_); intro w4 r4 o4 z4; have R4 := Lib.hid r4; have B4 := Lib.hid (Only.below B8.out o4 B8.out.size (fun k hk e => by subst e; omega)); clear r4 o4 z4))
  exact bodyPost_ret (tv_results Tryz.results65 rfl R4.out) rfl ⟨rfl, B4.out⟩
set_option maxRecDepth 100000 in
set_option maxHeartbeats 2000000 in
theorem tread_full (P : Nat → Prop) (G : Tv) (x : Int) (w : World) (h : G.at_ = 6) (h0 : subW x G.head ≠ 0) (r : RTab w P G.tab (.slice At nt ct)) (h64 : G.tab.length ≤ 64) (hR : 0 ≤ G.R ∧ G.R ≤ 64) (hq64 : (onL15 G.tab G.tab.length).length ≤ 64) (hn : G.R - ((onL15 G.tab G.tab.length).length : Int) < subW x G.head) :
    Calls Tryz.prog 65 #[tvV G (.slice At nt ct) (.slice Al nl cl), .int .i64 x] w fun e w' => e = .returned (tvV { G with at_ := 14, ans := 10 } (.slice At nt ct) (.slice Al nl cl)) ∧ Below w.heap.size w w' := by
  have HSZ := Lib.hid (fun (H : Tv) (a b : Value) => (tv_size.trans (congrArg some (tv_len H a b).symm)))
  have HONE := Lib.hid (tv_one (At := At) (nt := nt) (ct := ct) (Al := Al) (nl := nl) (cl := cl))
  have H1 := Lib.hid h
  have g1 : (subW x G.head == 0) = false := by simpa using h0
  have KSB := Lib.hid (fun W => rsub_any x G.head W)
  obtain ⟨q, hq⟩ : ∃ q, (onL15 G.tab G.tab.length).length = q := ⟨_, rfl⟩
  have KC := Lib.hid (fun W (hb : Below w.heap.size w W) => (rheld15_any P _ G.tab W (r.below hb) h64).mono (fun e w' (h : OwnP15 (onL15 G.tab G.tab.length) W e w') => show ∃ A c, e = .returned (.slice A q c) ∧ Below W.heap.size W w' from by
    obtain ⟨v', h1, h2, h3⟩ := h
    obtain ⟨A, c, rfl⟩ := own15_is h2
    exact ⟨A, c, by rw [h1, hq], h3⟩))
  rw [hq] at hn hq64
  have hw : IntKind.i64.wrap (G.R - (q : Int)) = G.R - (q : Int) := IntWalk.i64_in _ (by omega)
  obtain ⟨d, hd⟩ : ∃ d, G.R - (q : Int) = d := ⟨_, rfl⟩
  rw [hd] at hw hn
  have g2 : decide (d < subW x G.head) = true := decide_eq_true hn
  clear h h0 hn r hq hR hq64
  have KO := Lib.hid (fun W => tover_any (At := At) (nt := nt) (ct := ct) (Al := Al) (nl := nl) (cl := cl) G 10 W)
  unfold tvV at KO
  unfold tvV
  go_enter Tryz.func65, Tryz.ntmps65
  go_wp2_with (first
    | ((with_reducible refine box_walk rfl 37 (.tmp 0) rfl (tvC G (.slice At nt ct) (.slice Al nl cl)) rfl ?_); intro w1 r1 b1 z1; have R1 := Lib.hid r1; have B1 := Lib.hid b1; have hlt1 := r1.lt; clear r1 b1 z1)
    | ((with_reducible refine alloc_walk (o := ⟨some 4, _, _, _, _, _⟩) rfl 37 rfl _ tv_zero ?_); go_must (intro w2 r2 b2 z2; have R2 := Lib.hid (R1.out.below b2); have Q2 := Lib.hid r2; have B2 := Lib.hid (below_on B1.out b2); have hlt2 := r2.lt; have c1 := R2.out.cell 1; have f1 := R2.out.soft 1; have c7 := R2.out.cell 7; have f7 := R2.out.soft 7; have c9 := R2.out.cell 9; have f9 := R2.out.soft 9; have c10 := R2.out.cell 10; have f10 := R2.out.soft 10; simp only [tvC, List.getElem?_cons_zero, List.getElem?_cons_succ] at c1 c7 c9 c10; rw [H1.out] at c10; have OM0 : Hid (Only (fun k => k = w.heap.size) w2 w2) := Lib.hid (Only.refl (fun k => k = w.heap.size) w2); have RM0 : Hid (Row w2 w.heap.size 37 (tvC G (.slice At nt ct) (.slice Al nl cl))) := Lib.hid R2.out; have QM0 : Hid (Row w2 w1.heap.size 37 tvZ) := Lib.hid Q2.out; have BM0 : Hid (Below w.heap.size w w2) := Lib.hid B2.out; clear r2 b2 z2))
    | (go_at_call 82; refine (KSB.out _).mono ?_; rintro e w7 ⟨rfl, rfl⟩))
  have hR0 : Row w2.drew w.heap.size 37 (tvC G (.slice At nt ct) (.slice Al nl cl)) := RM0.out
  have hQ0 : Row w2.drew w1.heap.size 37 tvZ := QM0.out
  have hB0 : Below w.heap.size w w2.drew := BM0.out.drew
  have hS0 : w2.drew.cell? ⟨w.heap.size, 1, none⟩ = some (.int .i64 G.R) ∧ w2.drew.cell? ⟨w.heap.size, 9, none⟩ = some (.slice At nt ct) := ⟨c1, c9⟩
  have HLT : w.heap.size < w2.drew.heap.size := Nat.lt_trans hlt1 hlt2
  clear c7 f7
  go_region_held3 (fun W => W.cell? ⟨w.heap.size, 1, none⟩ = some (.int .i64 G.R) ∧ W.cell? ⟨w.heap.size, 9, none⟩ = some (.slice At nt ct))
    (first | exact hS0 | exact hS2 | go_keep)
    (first
      | (go_at_call 33; refine (KC.out _ (by first | assumption)).mono ?_; rintro e w8 ⟨A8, k8, rfl, b8⟩; have hS2 : w8.cell? ⟨w.heap.size, 1, none⟩ = some (.int .i64 G.R) ∧ w8.cell? ⟨w.heap.size, 9, none⟩ = some (.slice At nt ct) := ⟨(b8.cell (p := ⟨w.heap.size, 1, none⟩) HLT).trans hS0.1, (b8.cell (p := ⟨w.heap.size, 9, none⟩) HLT).trans hS0.2⟩; have R8 := Lib.hid (hR0.below b8); have Q8 := Lib.hid (hQ0.below b8); have B8 := Lib.hid (below_on hB0 b8); have OM8 : Hid (Only (fun k => k = w.heap.size) w8 w8) := Lib.hid (Only.refl (fun k => k = w.heap.size) w8); have RM8 : Hid (Row w8 w.heap.size 37 (tvC G (.slice At nt ct) (.slice Al nl cl))) := Lib.hid R8.out; have QM8 : Hid (Row w8 w1.heap.size 37 tvZ) := Lib.hid Q8.out; have BM8 : Hid (Below w.heap.size w w8) := Lib.hid B8.out; clear b8))
  all_goals
    go_wp2_with (first
      | (with_reducible refine loadRow_walk rfl 37 (.tmp 2) rfl w.heap.size rfl (tvC G (.slice At nt ct) (.slice Al nl cl)) tv_struct (HSZ.out _ _ _) 37 RM8.out ?_)
      | (go_at_call 66; refine (KO.out _).mono ?_; rintro e w6 ⟨rfl, b6⟩; have Q6 := Lib.hid (QM8.out.below b6); have B6 := Lib.hid (below_on BM8.out b6); clear b6)
      | ((with_reducible refine storeRow_walk rfl 37 (.tmp 4) (.tmp 29) rfl w1.heap.size rfl (tvC { G with at_ := 14, ans := 10 } (.slice At nt ct) (.slice Al nl cl)) rfl (HSZ.out _ _ _) 37 tvZ Q6.out rfl (HONE.out _) ?_); intro w9 r9 o9 z9; have R9 := Lib.hid r9; have B9 := Lib.hid (Only.below B6.out o9 B6.out.size (fun k hk e => by subst e; omega)); clear r9 o9 z9))
    exact bodyPost_ret (tv_results Tryz.results65 rfl R9.out) rfl ⟨rfl, B9.out⟩
set_option maxRecDepth 100000 in
set_option maxHeartbeats 2000000 in
theorem tread_look (P : Nat → Prop) (G : Tv) (x : Int) (w : World) (h : G.at_ = 6) (h0 : subW x G.head ≠ 0) (r : RTab w P G.tab (.slice At nt ct)) (h64 : G.tab.length ≤ 64) (hR : 0 ≤ G.R ∧ G.R ≤ 64) (hq64 : (onL15 G.tab G.tab.length).length ≤ 64) (hn : ¬ G.R - ((onL15 G.tab G.tab.length).length : Int) < subW x G.head) :
    Calls Tryz.prog 65 #[tvV G (.slice At nt ct) (.slice Al nl cl), .int .i64 x] w fun e w' => e = .returned (tvV { G with at_ := 7 } (.slice At nt ct) (.slice Al nl cl)) ∧ Below w.heap.size w w' := by
  have HSZ := Lib.hid (fun (H : Tv) (a b : Value) => (tv_size.trans (congrArg some (tv_len H a b).symm)))
  have HONE := Lib.hid (tv_one (At := At) (nt := nt) (ct := ct) (Al := Al) (nl := nl) (cl := cl))
  have H1 := Lib.hid h
  have g1 : (subW x G.head == 0) = false := by simpa using h0
  have KSB := Lib.hid (fun W => rsub_any x G.head W)
  obtain ⟨q, hq⟩ : ∃ q, (onL15 G.tab G.tab.length).length = q := ⟨_, rfl⟩
  have KC := Lib.hid (fun W (hb : Below w.heap.size w W) => (rheld15_any P _ G.tab W (r.below hb) h64).mono (fun e w' (h : OwnP15 (onL15 G.tab G.tab.length) W e w') => show ∃ A c, e = .returned (.slice A q c) ∧ Below W.heap.size W w' from by
    obtain ⟨v', h1, h2, h3⟩ := h
    obtain ⟨A, c, rfl⟩ := own15_is h2
    exact ⟨A, c, by rw [h1, hq], h3⟩))
  rw [hq] at hn hq64
  have hw : IntKind.i64.wrap (G.R - (q : Int)) = G.R - (q : Int) := IntWalk.i64_in _ (by omega)
  obtain ⟨d, hd⟩ : ∃ d, G.R - (q : Int) = d := ⟨_, rfl⟩
  rw [hd] at hw hn
  have g2 : decide (d < subW x G.head) = false := decide_eq_false hn
  clear h h0 hn r hq hR hq64
  unfold tvV
  go_enter Tryz.func65, Tryz.ntmps65
  go_wp2_with (first
    | ((with_reducible refine box_walk rfl 37 (.tmp 0) rfl (tvC G (.slice At nt ct) (.slice Al nl cl)) rfl ?_); intro w1 r1 b1 z1; have R1 := Lib.hid r1; have B1 := Lib.hid b1; have hlt1 := r1.lt; clear r1 b1 z1)
    | ((with_reducible refine alloc_walk (o := ⟨some 4, _, _, _, _, _⟩) rfl 37 rfl _ tv_zero ?_); go_must (intro w2 r2 b2 z2; have R2 := Lib.hid (R1.out.below b2); have Q2 := Lib.hid r2; have B2 := Lib.hid (below_on B1.out b2); have hlt2 := r2.lt; have c1 := R2.out.cell 1; have f1 := R2.out.soft 1; have c7 := R2.out.cell 7; have f7 := R2.out.soft 7; have c9 := R2.out.cell 9; have f9 := R2.out.soft 9; have c10 := R2.out.cell 10; have f10 := R2.out.soft 10; simp only [tvC, List.getElem?_cons_zero, List.getElem?_cons_succ] at c1 c7 c9 c10; rw [H1.out] at c10; have OM0 : Hid (Only (fun k => k = w.heap.size) w2 w2) := Lib.hid (Only.refl (fun k => k = w.heap.size) w2); have RM0 : Hid (Row w2 w.heap.size 37 (tvC G (.slice At nt ct) (.slice Al nl cl))) := Lib.hid R2.out; have QM0 : Hid (Row w2 w1.heap.size 37 tvZ) := Lib.hid Q2.out; have BM0 : Hid (Below w.heap.size w w2) := Lib.hid B2.out; clear r2 b2 z2))
    | (go_at_call 82; refine (KSB.out _).mono ?_; rintro e w7 ⟨rfl, rfl⟩))
  have hR0 : Row w2.drew w.heap.size 37 (tvC G (.slice At nt ct) (.slice Al nl cl)) := RM0.out
  have hQ0 : Row w2.drew w1.heap.size 37 tvZ := QM0.out
  have hB0 : Below w.heap.size w w2.drew := BM0.out.drew
  have hS0 : w2.drew.cell? ⟨w.heap.size, 1, none⟩ = some (.int .i64 G.R) ∧ w2.drew.cell? ⟨w.heap.size, 9, none⟩ = some (.slice At nt ct) := ⟨c1, c9⟩
  have HLT : w.heap.size < w2.drew.heap.size := Nat.lt_trans hlt1 hlt2
  clear c10 f10 c7 f7
  go_region_held3 (fun W => W.cell? ⟨w.heap.size, 1, none⟩ = some (.int .i64 G.R) ∧ W.cell? ⟨w.heap.size, 9, none⟩ = some (.slice At nt ct))
    (first | exact hS0 | exact hS2 | go_keep)
    (first
      | (go_at_call 33; refine (KC.out _ (by first | assumption)).mono ?_; rintro e w8 ⟨A8, k8, rfl, b8⟩; have hS2 : w8.cell? ⟨w.heap.size, 1, none⟩ = some (.int .i64 G.R) ∧ w8.cell? ⟨w.heap.size, 9, none⟩ = some (.slice At nt ct) := ⟨(b8.cell (p := ⟨w.heap.size, 1, none⟩) HLT).trans hS0.1, (b8.cell (p := ⟨w.heap.size, 9, none⟩) HLT).trans hS0.2⟩; have R8 := Lib.hid (hR0.below b8); have Q8 := Lib.hid (hQ0.below b8); have B8 := Lib.hid (below_on hB0 b8); have c10 := R8.out.cell 10; have f10 := R8.out.soft 10; simp only [tvC, List.getElem?_cons_zero, List.getElem?_cons_succ] at c10; have OM8 : Hid (Only (fun k => k = w.heap.size) w8 (w8.setCell ⟨w.heap.size, 10, none⟩ (.int .i64 7))) := Lib.hid ((Only.refl (fun k => k = w.heap.size) w8).put17 10 (.int .i64 7)); have RM8 : Hid (Row (w8.setCell ⟨w.heap.size, 10, none⟩ (.int .i64 7)) w.heap.size 37 (tvC { G with at_ := 7 } (.slice At nt ct) (.slice Al nl cl))) := Lib.hid (R8.out.put 10 (.int .i64 7)); have QM8 : Hid (Row (w8.setCell ⟨w.heap.size, 10, none⟩ (.int .i64 7)) w1.heap.size 37 tvZ) := Lib.hid (Q8.out.far (p := ⟨w.heap.size, 10, none⟩) (Nat.ne_of_gt hlt1) (.int .i64 7)); have BM8 : Hid (Below w.heap.size w (w8.setCell ⟨w.heap.size, 10, none⟩ (.int .i64 7))) := Lib.hid (B8.out.setCell (p := ⟨w.heap.size, 10, none⟩) (Nat.le_refl _) (.int .i64 7)); clear b8))
  all_goals
    go_wp2_with (first
      | (with_reducible refine loadRow_walk rfl 37 (.tmp 2) rfl w.heap.size rfl (tvC { G with at_ := 7 } (.slice At nt ct) (.slice Al nl cl)) tv_struct (HSZ.out _ _ _) 37 RM8.out ?_)
      | ((with_reducible refine storeRow_walk rfl 37 (.tmp 4) (.tmp 87) rfl w1.heap.size rfl (tvC { G with at_ := 7 } (.slice At nt ct) (.slice Al nl cl)) rfl (HSZ.out _ _ _) 37 tvZ QM8.out rfl (HONE.out _) ?_); intro w9 r9 o9 z9; have R9 := Lib.hid r9; have B9 := Lib.hid (Only.below BM8.out o9 BM8.out.size (fun k hk e => by subst e; omega)); clear r9 o9 z9))
    exact bodyPost_ret (tv_results Tryz.results65 rfl R9.out) rfl ⟨rfl, B9.out⟩
end
end

section
open Go.ChangeShapes Go.WideShapes Go.ChangeAt Go.RowKit
section
variable {At Al : Option Addr} {nt ct nl cl : Nat}
set_option maxRecDepth 100000 in
set_option maxHeartbeats 1000000 in
theorem tread_slot_big (G : Tv) (x : Int) (w : World) (h : G.at_ = 7) (h0 : G.R ≤ x) :
    Calls Tryz.prog 65 #[tvV G (.slice At nt ct) (.slice Al nl cl), .int .i64 x] w fun e w' => e = .returned (tvV { G with at_ := 14, ans := 10 } (.slice At nt ct) (.slice Al nl cl)) ∧ Below w.heap.size w w' := by
  have HSZ := Lib.hid (fun (H : Tv) (a b : Value) => (tv_size.trans (congrArg some (tv_len H a b).symm)))
  have HONE := Lib.hid (tv_one (At := At) (nt := nt) (ct := ct) (Al := Al) (nl := nl) (cl := cl))
  have H1 := Lib.hid h
  have g1 : decide (G.R ≤ x) = true := decide_eq_true h0
  clear h h0
  have KO := Lib.hid (fun W => tover_any (At := At) (nt := nt) (ct := ct) (Al := Al) (nl := nl) (cl := cl) G 10 W)
  unfold tvV at KO
  unfold tvV
  go_enter Tryz.func65, Tryz.ntmps65
  go_wp2_with (first
    | ((with_reducible refine box_walk rfl 37 (.tmp 0) rfl (tvC G (.slice At nt ct) (.slice Al nl cl)) rfl ?_); intro w1 r1 b1 z1; have R1 := Lib.hid r1; have B1 := Lib.hid b1; have hlt1 := r1.lt; clear r1 b1 z1)
    | ((with_reducible refine alloc_walk (o := ⟨some 4, _, _, _, _, _⟩) rfl 37 rfl _ tv_zero ?_); go_must (intro w2 r2 b2 z2; have R2 := Lib.hid (R1.out.below b2); have Q2 := Lib.hid r2; have B2 := Lib.hid (below_on B1.out b2); have c1 := R2.out.cell 1; have f1 := R2.out.soft 1; have c9 := R2.out.cell 9; have f9 := R2.out.soft 9; have c10 := R2.out.cell 10; have f10 := R2.out.soft 10; simp only [tvC, List.getElem?_cons_zero, List.getElem?_cons_succ] at c1 c9 c10; have R3 : Hid (Row w2 w.heap.size 37 (tvC G (.slice At nt ct) (.slice Al nl cl))) := Lib.hid R2.out; have Q3 : Hid (Row w2 w1.heap.size 37 tvZ) := Lib.hid Q2.out; have B3 := Lib.hid B2.out; rw [H1.out] at c10; clear r2 b2 z2))
    | (with_reducible refine loadRow_walk rfl 37 (.tmp 2) rfl w.heap.size rfl (tvC G (.slice At nt ct) (.slice Al nl cl)) tv_struct (HSZ.out _ _ _) 37 R3.out ?_)
    | (go_at_call 66; refine (KO.out _).mono ?_; rintro e w8 ⟨rfl, b8⟩; have Q8 := Lib.hid (Q3.out.below b8); have B8 := Lib.hid (below_on B3.out b8); clear b8)
    | ((with_reducible refine storeRow_walk rfl 37 (.tmp 4) (.tmp 46) rfl w1.heap.size rfl (tvC { G with at_ := 14, ans := 10 } (.slice At nt ct) (.slice Al nl cl)) rfl (HSZ.out _ _ _) 37 tvZ Q8.out rfl (HONE.out _) ?_); intro w4 r4 o4 z4; have R4 := Lib.hid r4; have B4 := Lib.hid (Only.below B8.out o4 B8.out.size (fun k hk e => by subst e; omega)); clear r4 o4 z4))
  exact bodyPost_ret (tv_results Tryz.results65 rfl R4.out) rfl ⟨rfl, B4.out⟩
set_option maxRecDepth 100000 in
set_option maxHeartbeats 1000000 in
theorem tread_slot_held (P : Nat → Prop) (G : Tv) (k : Nat) (e : Int) (w : World) (h : G.at_ = 7) (r : RTab w P G.tab (.slice At nt ct)) (hk : G.tab[k]? = some (e, true)) (h0 : (k : Int) < G.R) :
    Calls Tryz.prog 65 #[tvV G (.slice At nt ct) (.slice Al nl cl), .int .i64 (k : Int)] w fun e w' => e = .returned (tvV { G with at_ := 14, ans := 10 } (.slice At nt ct) (.slice Al nl cl)) ∧ Below w.heap.size w w' := by
  have HSZ := Lib.hid (fun (H : Tv) (a b : Value) => (tv_size.trans (congrArg some (tv_len H a b).symm)))
  have H1 := Lib.hid h
  have g1 : decide (G.R ≤ (k : Int)) = false := decide_eq_false (by omega)
  obtain ⟨_, _, _, rf, hn, _⟩ := r.open_
  injection rf with e1 e2 e3
  subst e1 e2 e3
  have hn' := hn.out
  have hkl : k < G.tab.length := (List.getElem?_eq_some_iff.1 hk).1
  obtain ⟨g, o, rfl, _, hg, ce, cb0⟩ := r.slot hk
  have hkn : (k : Int) < (nt : Int) := by omega
  have hk0 : ¬ ((k : Int) < 0) := by omega
  have hk1 : decide ((nt : Int) ≤ (k : Int)) = false := by simp; omega
  have hk2 : ¬ ((nt : Int) ≤ (k : Int)) := by omega
  have CB := Lib.hid cb0
  have HG := Lib.hid hg
  clear h h0 r hk hn hn' hkl hg ce cb0
  have HONE := Lib.hid (tv_one (At := (some ⟨g, o, none⟩)) (nt := nt) (ct := ct) (Al := Al) (nl := nl) (cl := cl))
  have KO := Lib.hid (fun W => tover_any (At := (some ⟨g, o, none⟩)) (nt := nt) (ct := ct) (Al := Al) (nl := nl) (cl := cl) G 10 W)
  unfold tvV at KO
  unfold tvV
  go_enter Tryz.func65, Tryz.ntmps65
  go_wp2_with (first
    | ((with_reducible refine box_walk rfl 37 (.tmp 0) rfl (tvC G (.slice (some ⟨g, o, none⟩) nt ct) (.slice Al nl cl)) rfl ?_); intro w1 r1 b1 z1; have R1 := Lib.hid r1; have B1 := Lib.hid b1; have hlt1 := r1.lt; clear r1 b1 z1)
    | ((with_reducible refine alloc_walk (o := ⟨some 4, _, _, _, _, _⟩) rfl 37 rfl _ tv_zero ?_); go_must (intro w2 r2 b2 z2; have R2 := Lib.hid (R1.out.below b2); have Q2 := Lib.hid r2; have B2 := Lib.hid (below_on B1.out b2); have c1 := R2.out.cell 1; have f1 := R2.out.soft 1; have c9 := R2.out.cell 9; have f9 := R2.out.soft 9; have c10 := R2.out.cell 10; have f10 := R2.out.soft 10; simp only [tvC, List.getElem?_cons_zero, List.getElem?_cons_succ] at c1 c9 c10; have R3 : Hid (Row w2 w.heap.size 37 (tvC G (.slice (some ⟨g, o, none⟩) nt ct) (.slice Al nl cl))) := Lib.hid R2.out; have Q3 : Hid (Row w2 w1.heap.size 37 tvZ) := Lib.hid Q2.out; have B3 := Lib.hid B2.out; rw [H1.out] at c10; have cb := (B2.out.cell (p := ⟨g, o + k * 2 + 1, none⟩) HG.out).trans CB.out; clear r2 b2 z2))
    | (with_reducible refine loadRow_walk rfl 37 (.tmp 2) rfl w.heap.size rfl (tvC G (.slice (some ⟨g, o, none⟩) nt ct) (.slice Al nl cl)) tv_struct (HSZ.out _ _ _) 37 R3.out ?_)
    | (go_at_call 66; refine (KO.out _).mono ?_; rintro e w8 ⟨rfl, b8⟩; have Q8 := Lib.hid (Q3.out.below b8); have B8 := Lib.hid (below_on B3.out b8); clear b8)
    | ((with_reducible refine storeRow_walk rfl 37 (.tmp 4) (.tmp 46) rfl w1.heap.size rfl (tvC { G with at_ := 14, ans := 10 } (.slice (some ⟨g, o, none⟩) nt ct) (.slice Al nl cl)) rfl (HSZ.out _ _ _) 37 tvZ Q8.out rfl (HONE.out _) ?_); intro w4 r4 o4 z4; have R4 := Lib.hid r4; have B4 := Lib.hid (Only.below B8.out o4 B8.out.size (fun k hk e => by subst e; omega)); clear r4 o4 z4))
  exact bodyPost_ret (tv_results Tryz.results65 rfl R4.out) rfl ⟨rfl, B4.out⟩
set_option maxRecDepth 100000 in
set_option maxHeartbeats 1000000 in
theorem tread_slot_free (P : Nat → Prop) (G : Tv) (k : Nat) (e : Int) (w : World) (h : G.at_ = 7) (r : RTab w P G.tab (.slice At nt ct)) (hk : G.tab[k]? = some (e, false)) (h0 : (k : Int) < G.R) :
    Calls Tryz.prog 65 #[tvV G (.slice At nt ct) (.slice Al nl cl), .int .i64 (k : Int)] w fun e w' => e = .returned (tvV { G with d := (k : Int), at_ := 8 } (.slice At nt ct) (.slice Al nl cl)) ∧ Below w.heap.size w w' := by
  have HSZ := Lib.hid (fun (H : Tv) (a b : Value) => (tv_size.trans (congrArg some (tv_len H a b).symm)))
  have H1 := Lib.hid h
  have g1 : decide (G.R ≤ (k : Int)) = false := decide_eq_false (by omega)
  obtain ⟨_, _, _, rf, hn, _⟩ := r.open_
  injection rf with e1 e2 e3
  subst e1 e2 e3
  have hn' := hn.out
  have hkl : k < G.tab.length := (List.getElem?_eq_some_iff.1 hk).1
  obtain ⟨g, o, rfl, _, hg, ce, cb0⟩ := r.slot hk
  have hkn : (k : Int) < (nt : Int) := by omega
  have hk0 : ¬ ((k : Int) < 0) := by omega
  have hk1 : decide ((nt : Int) ≤ (k : Int)) = false := by simp; omega
  have hk2 : ¬ ((nt : Int) ≤ (k : Int)) := by omega
  have CB := Lib.hid cb0
  have HG := Lib.hid hg
  clear h h0 r hk hn hn' hkl hg ce cb0
  have HONE := Lib.hid (tv_one (At := (some ⟨g, o, none⟩)) (nt := nt) (ct := ct) (Al := Al) (nl := nl) (cl := cl))
  unfold tvV
  go_enter Tryz.func65, Tryz.ntmps65
  go_wp2_with (first
    | ((with_reducible refine box_walk rfl 37 (.tmp 0) rfl (tvC G (.slice (some ⟨g, o, none⟩) nt ct) (.slice Al nl cl)) rfl ?_); intro w1 r1 b1 z1; have R1 := Lib.hid r1; have B1 := Lib.hid b1; have hlt1 := r1.lt; clear r1 b1 z1)
    | ((with_reducible refine alloc_walk (o := ⟨some 4, _, _, _, _, _⟩) rfl 37 rfl _ tv_zero ?_); go_must (intro w2 r2 b2 z2; have R2 := Lib.hid (R1.out.below b2); have Q2 := Lib.hid r2; have B2 := Lib.hid (below_on B1.out b2); have c1 := R2.out.cell 1; have f1 := R2.out.soft 1; have c9 := R2.out.cell 9; have f9 := R2.out.soft 9; have c10 := R2.out.cell 10; have f10 := R2.out.soft 10; have c12 := R2.out.cell 12; have f12 := R2.out.soft 12; simp only [tvC, List.getElem?_cons_zero, List.getElem?_cons_succ] at c1 c9 c10 c12; have R3 : Hid (Row ((w2.setCell ⟨w.heap.size, 12, none⟩ (.int .i64 (k : Int))).setCell ⟨w.heap.size, 10, none⟩ (.int .i64 8)) w.heap.size 37 (tvC { G with d := (k : Int), at_ := 8 } (.slice (some ⟨g, o, none⟩) nt ct) (.slice Al nl cl))) := Lib.hid ((R2.out.put 12 (.int .i64 (k : Int))).put 10 (.int .i64 8)); have Q3 : Hid (Row ((w2.setCell ⟨w.heap.size, 12, none⟩ (.int .i64 (k : Int))).setCell ⟨w.heap.size, 10, none⟩ (.int .i64 8)) w1.heap.size 37 tvZ) := Lib.hid ((Q2.out.far (p := ⟨w.heap.size, 12, none⟩) (Nat.ne_of_gt hlt1) _).far (p := ⟨w.heap.size, 10, none⟩) (Nat.ne_of_gt hlt1) _); have B3 := Lib.hid ((B2.out.setCell (p := ⟨w.heap.size, 12, none⟩) (Nat.le_refl _) (.int .i64 (k : Int))).setCell (p := ⟨w.heap.size, 10, none⟩) (Nat.le_refl _) (.int .i64 8)); rw [H1.out] at c10; have cb := (B2.out.cell (p := ⟨g, o + k * 2 + 1, none⟩) HG.out).trans CB.out; clear r2 b2 z2))
    | (with_reducible refine loadRow_walk rfl 37 (.tmp 2) rfl w.heap.size rfl (tvC { G with d := (k : Int), at_ := 8 } (.slice (some ⟨g, o, none⟩) nt ct) (.slice Al nl cl)) tv_struct (HSZ.out _ _ _) 37 R3.out ?_)
    | ((with_reducible refine storeRow_walk rfl 37 (.tmp 4) (.tmp 87) rfl w1.heap.size rfl (tvC { G with d := (k : Int), at_ := 8 } (.slice (some ⟨g, o, none⟩) nt ct) (.slice Al nl cl)) rfl (HSZ.out _ _ _) 37 tvZ Q3.out rfl (HONE.out _) ?_); intro w4 r4 o4 z4; have R4 := Lib.hid r4; have B4 := Lib.hid (Only.below B3.out o4 B3.out.size (fun k hk e => by subst e; omega)); clear r4 o4 z4))
  exact bodyPost_ret (tv_results Tryz.results65 rfl R4.out) rfl ⟨rfl, B4.out⟩
set_option maxRecDepth 100000 in
set_option maxHeartbeats 1000000 in
theorem tread_size_big (G : Tv) (x : Int) (w : World) (h : G.at_ = 8) (h0 : 8 < x) :
    Calls Tryz.prog 65 #[tvV G (.slice At nt ct) (.slice Al nl cl), .int .i64 x] w fun e w' => e = .returned (tvV { G with at_ := 14, ans := 10 } (.slice At nt ct) (.slice Al nl cl)) ∧ Below w.heap.size w w' := by
  have HSZ := Lib.hid (fun (H : Tv) (a b : Value) => (tv_size.trans (congrArg some (tv_len H a b).symm)))
  have HONE := Lib.hid (tv_one (At := At) (nt := nt) (ct := ct) (Al := Al) (nl := nl) (cl := cl))
  have H1 := Lib.hid h
  have g1 : decide ((8 : Int) < x) = true := decide_eq_true h0
  clear h h0
  have KO := Lib.hid (fun W => tover_any (At := At) (nt := nt) (ct := ct) (Al := Al) (nl := nl) (cl := cl) G 10 W)
  unfold tvV at KO
  unfold tvV
  go_enter Tryz.func65, Tryz.ntmps65
  go_wp2_with (first
    | ((with_reducible refine box_walk rfl 37 (.tmp 0) rfl (tvC G (.slice At nt ct) (.slice Al nl cl)) rfl ?_); intro w1 r1 b1 z1; have R1 := Lib.hid r1; have B1 := Lib.hid b1; have hlt1 := r1.lt; clear r1 b1 z1)
    | ((with_reducible refine alloc_walk (o := ⟨some 4, _, _, _, _, _⟩) rfl 37 rfl _ tv_zero ?_); go_must (intro w2 r2 b2 z2; have R2 := Lib.hid (R1.out.below b2); have Q2 := Lib.hid r2; have B2 := Lib.hid (below_on B1.out b2); have c10 := R2.out.cell 10; have f10 := R2.out.soft 10; simp only [tvC, List.getElem?_cons_zero, List.getElem?_cons_succ] at c10; have R3 : Hid (Row w2 w.heap.size 37 (tvC G (.slice At nt ct) (.slice Al nl cl))) := Lib.hid R2.out; have Q3 : Hid (Row w2 w1.heap.size 37 tvZ) := Lib.hid Q2.out; have B3 := Lib.hid B2.out; rw [H1.out] at c10; clear r2 b2 z2))
    | (with_reducible refine loadRow_walk rfl 37 (.tmp 2) rfl w.heap.size rfl (tvC G (.slice At nt ct) (.slice Al nl cl)) tv_struct (HSZ.out _ _ _) 37 R3.out ?_)
    | (go_at_call 66; refine (KO.out _).mono ?_; rintro e w8 ⟨rfl, b8⟩; have Q8 := Lib.hid (Q3.out.below b8); have B8 := Lib.hid (below_on B3.out b8); clear b8)
    | ((with_reducible refine storeRow_walk rfl 37 (.tmp 4) (.tmp 55) rfl w1.heap.size rfl (tvC { G with at_ := 14, ans := 10 } (.slice At nt ct) (.slice Al nl cl)) rfl (HSZ.out _ _ _) 37 tvZ Q8.out rfl (HONE.out _) ?_); intro w4 r4 o4 z4; have R4 := Lib.hid r4; have B4 := Lib.hid (Only.below B8.out o4 B8.out.size (fun k hk e => by subst e; omega)); clear r4 o4 z4))
  exact bodyPost_ret (tv_results Tryz.results65 rfl R4.out) rfl ⟨rfl, B4.out⟩
set_option maxRecDepth 100000 in
set_option maxHeartbeats 1000000 in
theorem tread_size_none (G : Tv) (x : Int) (w : World) (h : G.at_ = 8) (h0 : x = 0) :
    Calls Tryz.prog 65 #[tvV G (.slice At nt ct) (.slice Al nl cl), .int .i64 x] w fun e w' => e = .returned (tvV { G with many := x, i := 0, load := [], at_ := 14, ans := 0 } (.slice At nt ct) (.slice none 0 0)) ∧ Below w.heap.size w w' := by
  have HSZ := Lib.hid (fun (H : Tv) (a b : Value) => (tv_size.trans (congrArg some (tv_len H a b).symm)))
  have HONE := Lib.hid (tv_one (At := At) (nt := nt) (ct := ct) (Al := none) (nl := 0) (cl := 0))
  have H1 := Lib.hid h
  have g1 : decide ((8 : Int) < x) = false := decide_eq_false (by omega)
  have g2 : (x == 0) = true := by simpa using h0
  clear h h0
  have KO := Lib.hid (fun W => tover_any (At := At) (nt := nt) (ct := ct) (Al := none) (nl := 0) (cl := 0) { G with many := x, i := 0, load := [], at_ := 9 } 0 W)
  unfold tvV at KO
  unfold tvV
  go_enter Tryz.func65, Tryz.ntmps65
  go_wp2_with (first
    | ((with_reducible refine box_walk rfl 37 (.tmp 0) rfl (tvC G (.slice At nt ct) (.slice Al nl cl)) rfl ?_); intro w1 r1 b1 z1; have R1 := Lib.hid r1; have B1 := Lib.hid b1; have hlt1 := r1.lt; clear r1 b1 z1)
    | ((with_reducible refine alloc_walk (o := ⟨some 4, _, _, _, _, _⟩) rfl 37 rfl _ tv_zero ?_); go_must (intro w2 r2 b2 z2; have R2 := Lib.hid (R1.out.below b2); have Q2 := Lib.hid r2; have B2 := Lib.hid (below_on B1.out b2); have c10 := R2.out.cell 10; have f10 := R2.out.soft 10; have c11 := R2.out.cell 11; have f11 := R2.out.soft 11; have c13 := R2.out.cell 13; have f13 := R2.out.soft 13; have c16 := R2.out.cell 16; have f16 := R2.out.soft 16; simp only [tvC, List.getElem?_cons_zero, List.getElem?_cons_succ] at c10 c11 c13 c16; have R3 : Hid (Row ((((w2.setCell ⟨w.heap.size, 13, none⟩ (.int .i64 x)).setCell ⟨w.heap.size, 11, none⟩ (.int .i64 0)).setCell ⟨w.heap.size, 16, none⟩ (.slice none 0 0)).setCell ⟨w.heap.size, 10, none⟩ (.int .i64 9)) w.heap.size 37 (tvC { G with many := x, i := 0, load := [], at_ := 9 } (.slice At nt ct) (.slice none 0 0))) := Lib.hid ((((R2.out.put 13 (.int .i64 x)).put 11 (.int .i64 0)).put 16 (.slice none 0 0)).put 10 (.int .i64 9)); have Q3 : Hid (Row ((((w2.setCell ⟨w.heap.size, 13, none⟩ (.int .i64 x)).setCell ⟨w.heap.size, 11, none⟩ (.int .i64 0)).setCell ⟨w.heap.size, 16, none⟩ (.slice none 0 0)).setCell ⟨w.heap.size, 10, none⟩ (.int .i64 9)) w1.heap.size 37 tvZ) := Lib.hid ((((Q2.out.far (p := ⟨w.heap.size, 13, none⟩) (Nat.ne_of_gt hlt1) _).far (p := ⟨w.heap.size, 11, none⟩) (Nat.ne_of_gt hlt1) _).far (p := ⟨w.heap.size, 16, none⟩) (Nat.ne_of_gt hlt1) _).far (p := ⟨w.heap.size, 10, none⟩) (Nat.ne_of_gt hlt1) _); have B3 := Lib.hid ((((B2.out.setCell (p := ⟨w.heap.size, 13, none⟩) (Nat.le_refl _) (.int .i64 x)).setCell (p := ⟨w.heap.size, 11, none⟩) (Nat.le_refl _) (.int .i64 0)).setCell (p := ⟨w.heap.size, 16, none⟩) (Nat.le_refl _) (.slice none 0 0)).setCell (p := ⟨w.heap.size, 10, none⟩) (Nat.le_refl _) (.int .i64 9)); rw [H1.out] at c10; clear r2 b2 z2))
    | (with_reducible refine loadRow_walk rfl 37 (.tmp 2) rfl w.heap.size rfl (tvC { G with many := x, i := 0, load := [], at_ := 9 } (.slice At nt ct) (.slice none 0 0)) tv_struct (HSZ.out _ _ _) 37 R3.out ?_)
    | (go_at_call 66; refine (KO.out _).mono ?_; rintro e w8 ⟨rfl, b8⟩; have Q8 := Lib.hid (Q3.out.below b8); have B8 := Lib.hid (below_on B3.out b8); clear b8)
    | ((with_reducible refine storeRow_walk rfl 37 (.tmp 4) (.tmp 64) rfl w1.heap.size rfl (tvC { G with many := x, i := 0, load := [], at_ := 14, ans := 0 } (.slice At nt ct) (.slice none 0 0)) rfl (HSZ.out _ _ _) 37 tvZ Q8.out rfl (HONE.out _) ?_); intro w4 r4 o4 z4; have R4 := Lib.hid r4; have B4 := Lib.hid (Only.below B8.out o4 B8.out.size (fun k hk e => by subst e; omega)); clear r4 o4 z4))
  exact bodyPost_ret (tv_results Tryz.results65 rfl R4.out) rfl ⟨rfl, B4.out⟩
set_option maxRecDepth 100000 in
set_option maxHeartbeats 1000000 in
theorem tread_size (G : Tv) (x : Int) (w : World) (h : G.at_ = 8) (h0 : 0 < x ∧ x ≤ 8) :
    Calls Tryz.prog 65 #[tvV G (.slice At nt ct) (.slice Al nl cl), .int .i64 x] w fun e w' => e = .returned (tvV { G with many := x, i := 0, load := [], at_ := 9 } (.slice At nt ct) (.slice none 0 0)) ∧ Below w.heap.size w w' := by
  have HSZ := Lib.hid (fun (H : Tv) (a b : Value) => (tv_size.trans (congrArg some (tv_len H a b).symm)))
  have HONE := Lib.hid (tv_one (At := At) (nt := nt) (ct := ct) (Al := none) (nl := 0) (cl := 0))
  have H1 := Lib.hid h
  have g1 : decide ((8 : Int) < x) = false := decide_eq_false (by omega)
  have g2 : (x == 0) = false := by simp; omega
  clear h h0
  unfold tvV
  go_enter Tryz.func65, Tryz.ntmps65
  go_wp2_with (first
    | ((with_reducible refine box_walk rfl 37 (.tmp 0) rfl (tvC G (.slice At nt ct) (.slice Al nl cl)) rfl ?_); intro w1 r1 b1 z1; have R1 := Lib.hid r1; have B1 := Lib.hid b1; have hlt1 := r1.lt; clear r1 b1 z1)
    | ((with_reducible refine alloc_walk (o := ⟨some 4, _, _, _, _, _⟩) rfl 37 rfl _ tv_zero ?_); go_must (intro w2 r2 b2 z2; have R2 := Lib.hid (R1.out.below b2); have Q2 := Lib.hid r2; have B2 := Lib.hid (below_on B1.out b2); have c10 := R2.out.cell 10; have f10 := R2.out.soft 10; have c11 := R2.out.cell 11; have f11 := R2.out.soft 11; have c13 := R2.out.cell 13; have f13 := R2.out.soft 13; have c16 := R2.out.cell 16; have f16 := R2.out.soft 16; simp only [tvC, List.getElem?_cons_zero, List.getElem?_cons_succ] at c10 c11 c13 c16; have R3 : Hid (Row ((((w2.setCell ⟨w.heap.size, 13, none⟩ (.int .i64 x)).setCell ⟨w.heap.size, 11, none⟩ (.int .i64 0)).setCell ⟨w.heap.size, 16, none⟩ (.slice none 0 0)).setCell ⟨w.heap.size, 10, none⟩ (.int .i64 9)) w.heap.size 37 (tvC { G with many := x, i := 0, load := [], at_ := 9 } (.slice At nt ct) (.slice none 0 0))) := Lib.hid ((((R2.out.put 13 (.int .i64 x)).put 11 (.int .i64 0)).put 16 (.slice none 0 0)).put 10 (.int .i64 9)); have Q3 : Hid (Row ((((w2.setCell ⟨w.heap.size, 13, none⟩ (.int .i64 x)).setCell ⟨w.heap.size, 11, none⟩ (.int .i64 0)).setCell ⟨w.heap.size, 16, none⟩ (.slice none 0 0)).setCell ⟨w.heap.size, 10, none⟩ (.int .i64 9)) w1.heap.size 37 tvZ) := Lib.hid ((((Q2.out.far (p := ⟨w.heap.size, 13, none⟩) (Nat.ne_of_gt hlt1) _).far (p := ⟨w.heap.size, 11, none⟩) (Nat.ne_of_gt hlt1) _).far (p := ⟨w.heap.size, 16, none⟩) (Nat.ne_of_gt hlt1) _).far (p := ⟨w.heap.size, 10, none⟩) (Nat.ne_of_gt hlt1) _); have B3 := Lib.hid ((((B2.out.setCell (p := ⟨w.heap.size, 13, none⟩) (Nat.le_refl _) (.int .i64 x)).setCell (p := ⟨w.heap.size, 11, none⟩) (Nat.le_refl _) (.int .i64 0)).setCell (p := ⟨w.heap.size, 16, none⟩) (Nat.le_refl _) (.slice none 0 0)).setCell (p := ⟨w.heap.size, 10, none⟩) (Nat.le_refl _) (.int .i64 9)); rw [H1.out] at c10; clear r2 b2 z2))
    | (with_reducible refine loadRow_walk rfl 37 (.tmp 2) rfl w.heap.size rfl (tvC { G with many := x, i := 0, load := [], at_ := 9 } (.slice At nt ct) (.slice none 0 0)) tv_struct (HSZ.out _ _ _) 37 R3.out ?_)
    | ((with_reducible refine storeRow_walk rfl 37 (.tmp 4) (.tmp 87) rfl w1.heap.size rfl (tvC { G with many := x, i := 0, load := [], at_ := 9 } (.slice At nt ct) (.slice none 0 0)) rfl (HSZ.out _ _ _) 37 tvZ Q3.out rfl (HONE.out _) ?_); intro w4 r4 o4 z4; have R4 := Lib.hid r4; have B4 := Lib.hid (Only.below B3.out o4 B3.out.size (fun k hk e => by subst e; omega)); clear r4 o4 z4))
  exact bodyPost_ret (tv_results Tryz.results65 rfl R4.out) rfl ⟨rfl, B4.out⟩
end
end

section
open Go.ChangeShapes Go.WideShapes Go.ChangeAt Go.RowKit
section
variable {At Al : Option Addr} {nt ct nl cl : Nat}
set_option maxRecDepth 100000 in
set_option maxHeartbeats 4000000 in
theorem tread_word (P : Nat → Prop) (G : Tv) (x : Int) (w : World) (r : TvL w P G (.slice At nt ct) (.slice Al nl cl)) (h : G.at_ = 9) (hl : G.load.length ≤ 100) (hi : 0 ≤ G.i ∧ G.i ≤ 100) (hm : G.i + 1 ≠ G.many) :
    Calls Tryz.prog 65 #[tvV G (.slice At nt ct) (.slice Al nl cl), .int .i64 x] w (TVP P { G with load := G.load ++ [x], i := G.i + 1 } w) := by
  have HSZ := Lib.hid (fun (H : Tv) (a b : Value) => (tv_size.trans (congrArg some (tv_len H a b).symm)))
  obtain ⟨i0, hi0, hz0, hz1, hz2⟩ := info_parts int_info
  have H1 := Lib.hid h
  obtain ⟨_, _, _, rf, hn, _⟩ := lies_open r.load
  injection rf with e1 e2 e3
  subst e1 e2 e3
  have hn' := hn.out
  have d1 : IntKind.i64.wrap (G.i + 1) = G.i + 1 := IntWalk.i64_in _ (by omega)
  have g1 : (G.i + 1 == G.many) = false := by simpa using hm
  rw [hn'] at hl
  have HR := Lib.hid r
  have HL2 := Lib.hid (ints_one G.load)
  have HC2 := Lib.hid r.cl
  clear h r hn hn' hm hi
  unfold tvV
  go_enter Tryz.func65, Tryz.ntmps65
  go_wp2_with (first
    | ((with_reducible refine box_walk rfl 37 (.tmp 0) rfl (tvC G (.slice At nt ct) (.slice Al nl cl)) rfl ?_); intro w1 r1 b1 z1; have R1 := Lib.hid r1; have B1 := Lib.hid b1; have hlt1 := r1.lt; clear r1 b1 z1)
    | ((with_reducible refine alloc_walk (o := ⟨some 4, _, _, _, _, _⟩) rfl 37 rfl _ tv_zero ?_); go_must (intro w2 r2 b2 z2; have R2 := Lib.hid (R1.out.below b2); have Q2 := Lib.hid r2; have B2 := Lib.hid (below_on B1.out b2); have hlt2 := r2.lt; have c10 := R2.out.cell 10; have f10 := R2.out.soft 10; have c11 := R2.out.cell 11; have f11 := R2.out.soft 11; have c13 := R2.out.cell 13; have f13 := R2.out.soft 13; have c16 := R2.out.cell 16; have f16 := R2.out.soft 16; simp only [tvC, List.getElem?_cons_zero, List.getElem?_cons_succ] at c10 c11 c13 c16; rw [H1.out] at c10; have OM0 : Hid (Only (fun k => k = w.heap.size) w2 w2) := Lib.hid (Only.refl (fun k => k = w.heap.size) w2); have RM0 : Hid (Row w2 w.heap.size 37 (tvC G (.slice At nt ct) (.slice Al nl cl))) := Lib.hid R2.out; have QM0 : Hid (Row w2 w1.heap.size 37 tvZ) := Lib.hid Q2.out; have BM0 : Hid (Below w.heap.size w w2) := Lib.hid B2.out; clear r2 b2 z2))
    | (at_builtin; (refine app_walk _ rfl (.tmp 67) (.tmp 69) 35 rfl w2.heap.size 3 i0 _ 8 Tryz.underlying35 hi0 hz0 hz1 hz2 rfl (.slice none 0 0) 0 [] rfl (World.ownsRow_nil _ _ _ _) P Al nl cl (ints G.load) rfl (HR.out.load.below BM0.out) HC2.out HL2.out (by unfold maxLen; omega) (by omega) (by simp) ?_); go_must (intro v5 w5 hown5 hg5 hat5; rw [Nat.zero_add, List.nil_append] at hown5; obtain ⟨A5, u5, rfl⟩ := own_open14 hown5; have o5 : Only (fun x => (Value.slice none 0 0).ownBlock = some x) _ w5 := Only.of_own hg5; have R5 := Lib.hid (RM0.out.only o5 (fun e => by cases e)); have Q5 := Lib.hid (QM0.out.only o5 (fun e => by cases e)); have B5 : Hid (Below w.heap.size w w5) := Lib.hid (Only.below BM0.out o5 BM0.out.size (fun x hx e => by cases e)); have O5 := Lib.hid hown5; have S5 := Lib.hid o5.size; clear c10 f10 c11 f11 c13 f13 c16 f16; have c10 := R5.out.cell 10; have f10 := R5.out.soft 10; have c11 := R5.out.cell 11; have f11 := R5.out.soft 11; have c13 := R5.out.cell 13; have f13 := R5.out.soft 13; have c16 := R5.out.cell 16; have f16 := R5.out.soft 16; simp only [tvC, List.getElem?_cons_zero, List.getElem?_cons_succ] at c10 c11 c13 c16; clear hown5 hg5 hat5 o5))
    | (at_builtin; (refine app14_walk rfl (.tmp 71) (.tmp 73) 35 rfl w2.heap.size 3 i0 _ 1 8 Tryz.underlying35 hi0 hz0 hz1 hz2 rfl (by omega) _ _ _ rfl (O5.out.alloc _) ⟨_, 0, none⟩ 1 1 [.int .i64 x] rfl rfl (cells_new14 _ _ _ _ (by simp)) (by intro u hu; simp at hu; subst hu; rfl) (by unfold maxLen; omega) (by omega) (by have := S5.out; simp at this ⊢; omega) ?_); go_must (intro v7 w7 hown7 hg7 hat7; obtain ⟨g7, u7, rfl, hbg, hlt'⟩ := hown7.form (by omega); have s1 := B1.out.size; have hbw : w.heap.size < w2.heap.size := (by omega); have o7 : Only (fun x => (Value.slice A5 nl u5).ownBlock = some x) _ w7 := Only.of_own hg7; have R7 := Lib.hid ((R5.out.below (below_al _ _)).only o7 (fun e => by have := (O5.out.lt _ e).1; omega)); have Q7 := Lib.hid ((Q5.out.below (below_al _ _)).only o7 (fun e => by have := (O5.out.lt _ e).1; omega)); have B7 : Hid (Below w.heap.size w w7) := Lib.hid (Only.below (below_on B5.out (below_al _ _)) o7 (by have := B5.out.size; simp; omega) (fun x hx e => by have := (O5.out.lt x e).1; omega)); have O7 : Hid (w7.ownsRow w2.heap.size 3 1 (.slice (some ⟨g7, 0, none⟩) (nl + 1) u7) (nl + 1) (ints (G.load ++ [x]))) := Lib.hid (by rw [ints_append]; exact hown7); clear c10 f10 c11 f11 c13 f13 c16 f16; have c10 := R7.out.cell 10; have f10 := R7.out.soft 10; have c11 := R7.out.cell 11; have f11 := R7.out.soft 11; have c13 := R7.out.cell 13; have f13 := R7.out.soft 13; have c16 := R7.out.cell 16; have f16 := R7.out.soft 16; simp only [tvC, List.getElem?_cons_zero, List.getElem?_cons_succ] at c10 c11 c13 c16; have OM8 : Hid (Only (fun k => k = w.heap.size) w7 ((w7.setCell ⟨w.heap.size, 16, none⟩ (.slice (some ⟨g7, 0, none⟩) (nl + 1) u7)).setCell ⟨w.heap.size, 11, none⟩ (.int .i64 (G.i + 1)))) := Lib.hid (((Only.refl (fun k => k = w.heap.size) w7).put17 16 (.slice (some ⟨g7, 0, none⟩) (nl + 1) u7)).put17 11 (.int .i64 (G.i + 1))); have RM8 : Hid (Row ((w7.setCell ⟨w.heap.size, 16, none⟩ (.slice (some ⟨g7, 0, none⟩) (nl + 1) u7)).setCell ⟨w.heap.size, 11, none⟩ (.int .i64 (G.i + 1))) w.heap.size 37 (tvC { G with load := G.load ++ [x], i := G.i + 1 } (.slice At nt ct) (.slice (some ⟨g7, 0, none⟩) (nl + 1) u7))) := Lib.hid ((R7.out.put 16 (.slice (some ⟨g7, 0, none⟩) (nl + 1) u7)).put 11 (.int .i64 (G.i + 1))); have QM8 : Hid (Row ((w7.setCell ⟨w.heap.size, 16, none⟩ (.slice (some ⟨g7, 0, none⟩) (nl + 1) u7)).setCell ⟨w.heap.size, 11, none⟩ (.int .i64 (G.i + 1))) w1.heap.size 37 tvZ) := Lib.hid ((Q7.out.far (p := ⟨w.heap.size, 16, none⟩) (Nat.ne_of_gt hlt1) (.slice (some ⟨g7, 0, none⟩) (nl + 1) u7)).far (p := ⟨w.heap.size, 11, none⟩) (Nat.ne_of_gt hlt1) (.int .i64 (G.i + 1))); have BM8 : Hid (Below w.heap.size w ((w7.setCell ⟨w.heap.size, 16, none⟩ (.slice (some ⟨g7, 0, none⟩) (nl + 1) u7)).setCell ⟨w.heap.size, 11, none⟩ (.int .i64 (G.i + 1)))) := Lib.hid ((B7.out.setCell (p := ⟨w.heap.size, 16, none⟩) (Nat.le_refl _) (.slice (some ⟨g7, 0, none⟩) (nl + 1) u7)).setCell (p := ⟨w.heap.size, 11, none⟩) (Nat.le_refl _) (.int .i64 (G.i + 1))); clear hown7 hg7 hat7 o7))
    | (with_reducible refine loadRow_walk rfl 37 (.tmp 2) rfl w.heap.size rfl (tvC { G with load := G.load ++ [x], i := G.i + 1 } (.slice At nt ct) (.slice (some ⟨g7, 0, none⟩) (nl + 1) u7)) tv_struct (HSZ.out _ _ _) 37 RM8.out ?_)
    | ((with_reducible refine storeRow_walk rfl 37 (.tmp 4) (.tmp 87) rfl w1.heap.size rfl (tvC { G with load := G.load ++ [x], i := G.i + 1 } (.slice At nt ct) (.slice (some ⟨g7, 0, none⟩) (nl + 1) u7)) rfl (HSZ.out _ _ _) 37 tvZ QM8.out rfl (tv_one _) ?_); intro w9 r9 o9 z9; have R9 := Lib.hid r9; have B9 := Lib.hid (Only.below BM8.out o9 BM8.out.size (fun k hk e => by subst e; omega)); have O9 := Lib.hid o9; clear r9 o9 z9))
  have NN : Only (fun x => x = w.heap.size ∨ x = w1.heap.size) w7 w9 := (OM8.out.mono (fun x _ e => .inl e)).trans (O9.out.mono (fun x _ e => .inr e))
  have O4 := own_quiet O7.out (fun x hx => NN.block x (O7.out.lt x hx).2 (fun e => by have := (O7.out.lt x hx).1; omega))
  exact bodyPost_ret (tv_results Tryz.results65 rfl R9.out) rfl ⟨_, _, _, _, _, _, rfl, ⟨(HR.out.tab.below B9.out).weak (fun x _ h => .inl h), (Lies.of_own O4).weak (fun x _ h => .inr (by omega)), CapOk.of_own O4⟩, B9.out⟩
set_option maxRecDepth 100000 in
set_option maxHeartbeats 4000000 in
theorem tread_word_end (P : Nat → Prop) (G : Tv) (x : Int) (w : World) (r : TvL w P G (.slice At nt ct) (.slice Al nl cl)) (h : G.at_ = 9) (hl : G.load.length ≤ 100) (hi : 0 ≤ G.i ∧ G.i ≤ 100) (hm : G.i + 1 = G.many) :
    Calls Tryz.prog 65 #[tvV G (.slice At nt ct) (.slice Al nl cl), .int .i64 x] w (TVP P { G with load := G.load ++ [x], i := G.i + 1, at_ := 14, ans := 0 } w) := by
  have HSZ := Lib.hid (fun (H : Tv) (a b : Value) => (tv_size.trans (congrArg some (tv_len H a b).symm)))
  obtain ⟨i0, hi0, hz0, hz1, hz2⟩ := info_parts int_info
  have H1 := Lib.hid h
  obtain ⟨_, _, _, rf, hn, _⟩ := lies_open r.load
  injection rf with e1 e2 e3
  subst e1 e2 e3
  have hn' := hn.out
  have d1 : IntKind.i64.wrap (G.i + 1) = G.i + 1 := IntWalk.i64_in _ (by omega)
  have g1 : (G.i + 1 == G.many) = true := by simpa using hm
  rw [hn'] at hl
  have HR := Lib.hid r
  have HL2 := Lib.hid (ints_one G.load)
  have HC2 := Lib.hid r.cl
  have KO := Lib.hid (fun (A : Option Addr) (n c : Nat) (H : Tv) W => tover_any (At := At) (nt := nt) (ct := ct) (Al := A) (nl := n) (cl := c) H 0 W)
  unfold tvV at KO
  clear h r hn hn' hm hi
  unfold tvV
  go_enter Tryz.func65, Tryz.ntmps65
  go_wp2_with (first
    | ((with_reducible refine box_walk rfl 37 (.tmp 0) rfl (tvC G (.slice At nt ct) (.slice Al nl cl)) rfl ?_); intro w1 r1 b1 z1; have R1 := Lib.hid r1; have B1 := Lib.hid b1; have hlt1 := r1.lt; clear r1 b1 z1)
    | ((with_reducible refine alloc_walk (o := ⟨some 4, _, _, _, _, _⟩) rfl 37 rfl _ tv_zero ?_); go_must (intro w2 r2 b2 z2; have R2 := Lib.hid (R1.out.below b2); have Q2 := Lib.hid r2; have B2 := Lib.hid (below_on B1.out b2); have hlt2 := r2.lt; have c10 := R2.out.cell 10; have f10 := R2.out.soft 10; have c11 := R2.out.cell 11; have f11 := R2.out.soft 11; have c13 := R2.out.cell 13; have f13 := R2.out.soft 13; have c16 := R2.out.cell 16; have f16 := R2.out.soft 16; simp only [tvC, List.getElem?_cons_zero, List.getElem?_cons_succ] at c10 c11 c13 c16; rw [H1.out] at c10; have OM0 : Hid (Only (fun k => k = w.heap.size) w2 w2) := Lib.hid (Only.refl (fun k => k = w.heap.size) w2); have RM0 : Hid (Row w2 w.heap.size 37 (tvC G (.slice At nt ct) (.slice Al nl cl))) := Lib.hid R2.out; have QM0 : Hid (Row w2 w1.heap.size 37 tvZ) := Lib.hid Q2.out; have BM0 : Hid (Below w.heap.size w w2) := Lib.hid B2.out; clear r2 b2 z2))
    | (at_builtin; (refine app_walk _ rfl (.tmp 67) (.tmp 69) 35 rfl w2.heap.size 3 i0 _ 8 Tryz.underlying35 hi0 hz0 hz1 hz2 rfl (.slice none 0 0) 0 [] rfl (World.ownsRow_nil _ _ _ _) P Al nl cl (ints G.load) rfl (HR.out.load.below BM0.out) HC2.out HL2.out (by unfold maxLen; omega) (by omega) (by simp) ?_); go_must (intro v5 w5 hown5 hg5 hat5; rw [Nat.zero_add, List.nil_append] at hown5; obtain ⟨A5, u5, rfl⟩ := own_open14 hown5; have o5 : Only (fun x => (Value.slice none 0 0).ownBlock = some x) _ w5 := Only.of_own hg5; have R5 := Lib.hid (RM0.out.only o5 (fun e => by cases e)); have Q5 := Lib.hid (QM0.out.only o5 (fun e => by cases e)); have B5 : Hid (Below w.heap.size w w5) := Lib.hid (Only.below BM0.out o5 BM0.out.size (fun x hx e => by cases e)); have O5 := Lib.hid hown5; have S5 := Lib.hid o5.size; clear c10 f10 c11 f11 c13 f13 c16 f16; have c10 := R5.out.cell 10; have f10 := R5.out.soft 10; have c11 := R5.out.cell 11; have f11 := R5.out.soft 11; have c13 := R5.out.cell 13; have f13 := R5.out.soft 13; have c16 := R5.out.cell 16; have f16 := R5.out.soft 16; simp only [tvC, List.getElem?_cons_zero, List.getElem?_cons_succ] at c10 c11 c13 c16; clear hown5 hg5 hat5 o5))
    | (at_builtin; (refine app14_walk rfl (.tmp 71) (.tmp 73) 35 rfl w2.heap.size 3 i0 _ 1 8 Tryz.underlying35 hi0 hz0 hz1 hz2 rfl (by omega) _ _ _ rfl (O5.out.alloc _) ⟨_, 0, none⟩ 1 1 [.int .i64 x] rfl rfl (cells_new14 _ _ _ _ (by simp)) (by intro u hu; simp at hu; subst hu; rfl) (by unfold maxLen; omega) (by omega) (by have := S5.out; simp at this ⊢; omega) ?_); go_must (intro v7 w7 hown7 hg7 hat7; obtain ⟨g7, u7, rfl, hbg, hlt'⟩ := hown7.form (by omega); have s1 := B1.out.size; have hbw : w.heap.size < w2.heap.size := (by omega); have o7 : Only (fun x => (Value.slice A5 nl u5).ownBlock = some x) _ w7 := Only.of_own hg7; have R7 := Lib.hid ((R5.out.below (below_al _ _)).only o7 (fun e => by have := (O5.out.lt _ e).1; omega)); have Q7 := Lib.hid ((Q5.out.below (below_al _ _)).only o7 (fun e => by have := (O5.out.lt _ e).1; omega)); have B7 : Hid (Below w.heap.size w w7) := Lib.hid (Only.below (below_on B5.out (below_al _ _)) o7 (by have := B5.out.size; simp; omega) (fun x hx e => by have := (O5.out.lt x e).1; omega)); have O7 : Hid (w7.ownsRow w2.heap.size 3 1 (.slice (some ⟨g7, 0, none⟩) (nl + 1) u7) (nl + 1) (ints (G.load ++ [x]))) := Lib.hid (by rw [ints_append]; exact hown7); clear c10 f10 c11 f11 c13 f13 c16 f16; have c10 := R7.out.cell 10; have f10 := R7.out.soft 10; have c11 := R7.out.cell 11; have f11 := R7.out.soft 11; have c13 := R7.out.cell 13; have f13 := R7.out.soft 13; have c16 := R7.out.cell 16; have f16 := R7.out.soft 16; simp only [tvC, List.getElem?_cons_zero, List.getElem?_cons_succ] at c10 c11 c13 c16; have OM8 : Hid (Only (fun k => k = w.heap.size) w7 ((w7.setCell ⟨w.heap.size, 16, none⟩ (.slice (some ⟨g7, 0, none⟩) (nl + 1) u7)).setCell ⟨w.heap.size, 11, none⟩ (.int .i64 (G.i + 1)))) := Lib.hid (((Only.refl (fun k => k = w.heap.size) w7).put17 16 (.slice (some ⟨g7, 0, none⟩) (nl + 1) u7)).put17 11 (.int .i64 (G.i + 1))); have RM8 : Hid (Row ((w7.setCell ⟨w.heap.size, 16, none⟩ (.slice (some ⟨g7, 0, none⟩) (nl + 1) u7)).setCell ⟨w.heap.size, 11, none⟩ (.int .i64 (G.i + 1))) w.heap.size 37 (tvC { G with load := G.load ++ [x], i := G.i + 1 } (.slice At nt ct) (.slice (some ⟨g7, 0, none⟩) (nl + 1) u7))) := Lib.hid ((R7.out.put 16 (.slice (some ⟨g7, 0, none⟩) (nl + 1) u7)).put 11 (.int .i64 (G.i + 1))); have QM8 : Hid (Row ((w7.setCell ⟨w.heap.size, 16, none⟩ (.slice (some ⟨g7, 0, none⟩) (nl + 1) u7)).setCell ⟨w.heap.size, 11, none⟩ (.int .i64 (G.i + 1))) w1.heap.size 37 tvZ) := Lib.hid ((Q7.out.far (p := ⟨w.heap.size, 16, none⟩) (Nat.ne_of_gt hlt1) (.slice (some ⟨g7, 0, none⟩) (nl + 1) u7)).far (p := ⟨w.heap.size, 11, none⟩) (Nat.ne_of_gt hlt1) (.int .i64 (G.i + 1))); have BM8 : Hid (Below w.heap.size w ((w7.setCell ⟨w.heap.size, 16, none⟩ (.slice (some ⟨g7, 0, none⟩) (nl + 1) u7)).setCell ⟨w.heap.size, 11, none⟩ (.int .i64 (G.i + 1)))) := Lib.hid ((B7.out.setCell (p := ⟨w.heap.size, 16, none⟩) (Nat.le_refl _) (.slice (some ⟨g7, 0, none⟩) (nl + 1) u7)).setCell (p := ⟨w.heap.size, 11, none⟩) (Nat.le_refl _) (.int .i64 (G.i + 1))); clear hown7 hg7 hat7 o7))
    | (with_reducible refine loadRow_walk rfl 37 (.tmp 2) rfl w.heap.size rfl (tvC { G with load := G.load ++ [x], i := G.i + 1 } (.slice At nt ct) (.slice (some ⟨g7, 0, none⟩) (nl + 1) u7)) tv_struct (HSZ.out _ _ _) 37 RM8.out ?_)
    | (go_at_call 66; refine (KO.out _ _ _ _ _).mono ?_; rintro e w6 ⟨rfl, b6⟩; go_must (have R9x := Lib.hid (RM8.out.below b6); have Q9x := Lib.hid (QM8.out.below b6); have B9x := Lib.hid (below_on BM8.out b6); have NB9 := Lib.hid b6; clear c10 f10 c11 f11 c13 f13 c16 f16; have OM9 : Hid (Only (fun k => k = w.heap.size) w6 w6) := Lib.hid (Only.refl (fun k => k = w.heap.size) w6); have RM9 : Hid (Row w6 w.heap.size 37 (tvC { G with load := G.load ++ [x], i := G.i + 1 } (.slice At nt ct) (.slice (some ⟨g7, 0, none⟩) (nl + 1) u7))) := Lib.hid R9x.out; have QM9 : Hid (Row w6 w1.heap.size 37 tvZ) := Lib.hid Q9x.out; have BM9 : Hid (Below w.heap.size w w6) := Lib.hid B9x.out; clear b6))
    | ((with_reducible refine storeRow_walk rfl 37 (.tmp 4) (.tmp 86) rfl w1.heap.size rfl (tvC { G with load := G.load ++ [x], i := G.i + 1, at_ := 14, ans := 0 } (.slice At nt ct) (.slice (some ⟨g7, 0, none⟩) (nl + 1) u7)) rfl (HSZ.out _ _ _) 37 tvZ QM9.out rfl (tv_one _) ?_); intro w9 r9 o9 z9; have R9 := Lib.hid r9; have B9 := Lib.hid (Only.below BM9.out o9 BM9.out.size (fun k hk e => by subst e; omega)); have O9 := Lib.hid o9; clear r9 o9 z9))
  have NN : Only (fun x => x = w.heap.size ∨ x = w1.heap.size) w7 w9 := ((OM8.out.mono (fun x _ e => .inl e)).then_below NB9.out).trans (O9.out.mono (fun x _ e => .inr e))
  have O4 := own_quiet O7.out (fun x hx => NN.block x (O7.out.lt x hx).2 (fun e => by have := (O7.out.lt x hx).1; omega))
  exact bodyPost_ret (tv_results Tryz.results65 rfl R9.out) rfl ⟨_, _, _, _, _, _, rfl, ⟨(HR.out.tab.below B9.out).weak (fun x _ h => .inl h), (Lies.of_own O4).weak (fun x _ h => .inr (by omega)), CapOk.of_own O4⟩, B9.out⟩
end
end

section
open Go.ChangeShapes Go.WideShapes Go.ChangeAt Go.RowKit
theorem made17t (C : Nat) (w : World) : RTab (w.alloc (.cells (madeCells #[.int .i64 0, .bool false] (C * 2)) 77)) (fun b => b = w.heap.size) (new15 C) (.slice (some ⟨w.heap.size, 0, none⟩) C C) := by
  refine ⟨⟨_, C, by rw [rp15_len]; simp [new15], fun _ => ⟨w.heap.size, 0, rfl, rfl, by simp, fun j u hu => ?_⟩⟩, Nat.le_refl _⟩
  have hj : j < C * 2 := by have := (List.getElem?_eq_some_iff.1 hu).1; rw [flat_len, rp15_len] at this; simpa [new15] using this
  have hi : j / 2 < C := by omega
  have h0 := made_at #[.int .i64 0, .bool false] 2 C (j / 2) (j % 2) rfl hi (by omega)
  have e : j / 2 * 2 + j % 2 = j := by omega
  rw [e] at h0
  rw [Nat.zero_add, Row.cell (Row.new w 77 _) j, h0, ← hu]
  have hr := flat_at (rp15_at (l := new15 C) (k := j / 2) (e := 0) (b := false) (by simp [new15, hi]))
  rcases Nat.mod_two_eq_zero_or_one j with hm | hm
  · rw [hm]
    have : (flat (rp15 (new15 C)))[j]? = (flat (rp15 (new15 C)))[j / 2 * 2]? := congrArg (fun i => (flat (rp15 (new15 C)))[i]?) (by omega)
    rw [this, hr.1]
    rfl
  · rw [hm]
    have : (flat (rp15 (new15 C)))[j]? = (flat (rp15 (new15 C)))[j / 2 * 2 + 1]? := congrArg (fun i => (flat (rp15 (new15 C)))[i]?) (by omega)
    rw [this, hr.2]
    rfl
/-- A new taker of the reference in numbers. -/
def tn17v (B : Int) (R : Nat) (self peer own : Int) : Tv := ⟨B, (R : Int), self, peer, own, if 0 < own then -1 else 0, false, 0, 0, new15 R, 0, 0, 0, 0, 0, 0, [], 0⟩
section
set_option maxRecDepth 100000 in
set_option maxHeartbeats 2000000 in
theorem rnew17_yes (B : Int) (R : Nat) (self peer own : Int) (h64 : R ≤ 64) (w : World) (hp : 0 < own) :
    Calls Tryz.prog 9 #[.int .i64 B, .int .i64 (R : Int), .int .i64 self, .int .i64 peer, .int .i64 own] w (TVP (fun _ => False) (tn17v B R self peer own) w) := by
  have HSZ := Lib.hid (fun (H : Tv) (a b : Value) => (tv_size.trans (congrArg some (tv_len H a b).symm)))
  have hmk := fun W => run_make_rowN (P := Tryz.prog) 34 77 _ 2 16 Tryz.underlying34 one15_info .i64 .i64 R (by omega) (by omega) W
  have g1 : decide ((0 : Int) < own) = true := decide_eq_true hp
  have HP := Lib.hid hp
  clear hp
  go_enter Tryz.func9, Tryz.ntmps9
  go_wp2_with (first
    | ((with_reducible refine alloc_walk (o := ⟨some 10, _, _, _, _, _⟩) rfl 37 rfl _ tv_zero ?_); go_must (intro w1 r1 b1 z1; have Q1 := Lib.hid r1; have B1 := Lib.hid b1; have hlt1 := r1.lt; have MD := Lib.hid (made17t R w1); have MB := Lib.hid (below_al w1 (.cells (madeCells #[.int .i64 0, .bool false] (R * 2)) 77)); have MS := Lib.hid (show (w1.alloc (.cells (madeCells #[.int .i64 0, .bool false] (R * 2)) 77)).heap.size = w1.heap.size + 1 by simp); clear r1 b1 z1))
    | ((with_reducible refine alloc_walk (o := ⟨some 11, _, _, _, _, _⟩) rfl 37 rfl _ tv_zero ?_); go_must (generalize w1.alloc (.cells (madeCells #[.int .i64 0, .bool false] (R * 2)) 77) = w2 at MD MB MS ⊢; intro w3 r3 b3 z3; have hs2 : w1.heap.size < w2.heap.size := (by have := MS.out; omega); have Q3 := Lib.hid ((Q1.out.below MB.out).below b3); have R3 := Lib.hid r3; have T3 := Lib.hid (MD.out.below b3); have B3 := Lib.hid (below_on (below_on B1.out MB.out) b3); have hlt3 := r3.lt; clear r3 b3 z3))
    | ((with_reducible refine storeRow_walk rfl 37 (.tmp 11) (.tmp 19) rfl w2.heap.size rfl (tvC ⟨B, (R : Int), self, peer, own, 0, false, 0, 0, new15 R, 0, 0, 0, 0, 0, 0, [], 0⟩ (.slice (some ⟨w1.heap.size, 0, none⟩) R R) (.slice none 0 0)) rfl (HSZ.out _ _ _) 37 tvZ R3.out rfl (tv_one _) ?_); intro w4 r4 o4 z4; have R4 := Lib.hid r4; have N4 := Lib.hid o4; have c5 := R4.out.cell 5; have f5 := R4.out.soft 5; simp only [tvC, List.getElem?_cons_zero, List.getElem?_cons_succ] at c5; have R5 : Hid (Row (w4.setCell ⟨w2.heap.size, 5, none⟩ (.int .i64 (-1))) w2.heap.size 37 (tvC ⟨B, (R : Int), self, peer, own, -1, false, 0, 0, new15 R, 0, 0, 0, 0, 0, 0, [], 0⟩ (.slice (some ⟨w1.heap.size, 0, none⟩) R R) (.slice none 0 0))) := Lib.hid (R4.out.put 5 (.int .i64 (-1))); have Q5 := Lib.hid ((Q3.out.only N4.out (fun e => by omega)).far (p := ⟨w2.heap.size, 5, none⟩) (by show w.heap.size ≠ w2.heap.size; omega) (.int .i64 (-1))); clear r4 o4 z4)
    | (with_reducible refine loadRow_walk rfl 37 (.tmp 11) rfl w2.heap.size rfl (tvC ⟨B, (R : Int), self, peer, own, -1, false, 0, 0, new15 R, 0, 0, 0, 0, 0, 0, [], 0⟩ (.slice (some ⟨w1.heap.size, 0, none⟩) R R) (.slice none 0 0)) tv_struct (HSZ.out _ _ _) 37 R5.out ?_)
    | ((with_reducible refine storeRow_walk rfl 37 (.tmp 10) (.tmp 23) rfl w.heap.size rfl (tvC ⟨B, (R : Int), self, peer, own, -1, false, 0, 0, new15 R, 0, 0, 0, 0, 0, 0, [], 0⟩ (.slice (some ⟨w1.heap.size, 0, none⟩) R R) (.slice none 0 0)) rfl (HSZ.out _ _ _) 37 tvZ Q5.out rfl (tv_one _) ?_); intro w6 r6 o6 z6; have R6 := Lib.hid r6; have N6 := Lib.hid o6; clear r6 o6 z6))
  have NN : Only (fun x => x = w2.heap.size ∨ x = w.heap.size) w3 w6 := ((N4.out.mono (fun x _ e => .inl e)).setCell (p := ⟨w2.heap.size, 5, none⟩) (.inl (.inl rfl)) _).trans (N6.out.mono (fun x _ e => .inr e))
  have hd : tn17v B R self peer own = ⟨B, (R : Int), self, peer, own, -1, false, 0, 0, new15 R, 0, 0, 0, 0, 0, 0, [], 0⟩ := by have hp := HP.out; unfold tn17v; rw [if_pos (by omega)]
  rw [hd]
  have hb : Below w.heap.size w w6 := Only.below B3.out NN (by have := B3.out.size; omega) (fun x hx e => by omega)
  exact bodyPost_ret (tv_results Tryz.results9 rfl R6.out) rfl ⟨_, _, _, _, _, _, rfl, ⟨(T3.out.only NN (fun x hx e => by subst e; rcases hx with hx | hx <;> omega)).weak (fun x _ e => .inr (by subst e; omega)), Lies.nil_ _ _, cap_nil⟩, hb⟩
set_option maxRecDepth 100000 in
set_option maxHeartbeats 2000000 in
theorem rnew17_no (B : Int) (R : Nat) (self peer own : Int) (h64 : R ≤ 64) (w : World) (hp : ¬ 0 < own) :
    Calls Tryz.prog 9 #[.int .i64 B, .int .i64 (R : Int), .int .i64 self, .int .i64 peer, .int .i64 own] w (TVP (fun _ => False) (tn17v B R self peer own) w) := by
  have HSZ := Lib.hid (fun (H : Tv) (a b : Value) => (tv_size.trans (congrArg some (tv_len H a b).symm)))
  have hmk := fun W => run_make_rowN (P := Tryz.prog) 34 77 _ 2 16 Tryz.underlying34 one15_info .i64 .i64 R (by omega) (by omega) W
  have g1 : decide ((0 : Int) < own) = false := decide_eq_false hp
  have HP := Lib.hid hp
  clear hp
  go_enter Tryz.func9, Tryz.ntmps9
  go_wp2_with (first
    | ((with_reducible refine alloc_walk (o := ⟨some 10, _, _, _, _, _⟩) rfl 37 rfl _ tv_zero ?_); go_must (intro w1 r1 b1 z1; have Q1 := Lib.hid r1; have B1 := Lib.hid b1; have hlt1 := r1.lt; have MD := Lib.hid (made17t R w1); have MB := Lib.hid (below_al w1 (.cells (madeCells #[.int .i64 0, .bool false] (R * 2)) 77)); have MS := Lib.hid (show (w1.alloc (.cells (madeCells #[.int .i64 0, .bool false] (R * 2)) 77)).heap.size = w1.heap.size + 1 by simp); clear r1 b1 z1))
    | ((with_reducible refine alloc_walk (o := ⟨some 11, _, _, _, _, _⟩) rfl 37 rfl _ tv_zero ?_); go_must (generalize w1.alloc (.cells (madeCells #[.int .i64 0, .bool false] (R * 2)) 77) = w2 at MD MB MS ⊢; intro w3 r3 b3 z3; have hs2 : w1.heap.size < w2.heap.size := (by have := MS.out; omega); have Q3 := Lib.hid ((Q1.out.below MB.out).below b3); have R3 := Lib.hid r3; have T3 := Lib.hid (MD.out.below b3); have B3 := Lib.hid (below_on (below_on B1.out MB.out) b3); have hlt3 := r3.lt; clear r3 b3 z3))
    | ((with_reducible refine storeRow_walk rfl 37 (.tmp 11) (.tmp 19) rfl w2.heap.size rfl (tvC ⟨B, (R : Int), self, peer, own, 0, false, 0, 0, new15 R, 0, 0, 0, 0, 0, 0, [], 0⟩ (.slice (some ⟨w1.heap.size, 0, none⟩) R R) (.slice none 0 0)) rfl (HSZ.out _ _ _) 37 tvZ R3.out rfl (tv_one _) ?_); intro w4 r4 o4 z4; have R4 := Lib.hid r4; have N4 := Lib.hid o4; have R5 := R4; have Q5 := Lib.hid (Q3.out.only N4.out (fun e => by omega)); clear r4 o4 z4)
    | (with_reducible refine loadRow_walk rfl 37 (.tmp 11) rfl w2.heap.size rfl (tvC ⟨B, (R : Int), self, peer, own, 0, false, 0, 0, new15 R, 0, 0, 0, 0, 0, 0, [], 0⟩ (.slice (some ⟨w1.heap.size, 0, none⟩) R R) (.slice none 0 0)) tv_struct (HSZ.out _ _ _) 37 R5.out ?_)
    | ((with_reducible refine storeRow_walk rfl 37 (.tmp 10) (.tmp 23) rfl w.heap.size rfl (tvC ⟨B, (R : Int), self, peer, own, 0, false, 0, 0, new15 R, 0, 0, 0, 0, 0, 0, [], 0⟩ (.slice (some ⟨w1.heap.size, 0, none⟩) R R) (.slice none 0 0)) rfl (HSZ.out _ _ _) 37 tvZ Q5.out rfl (tv_one _) ?_); intro w6 r6 o6 z6; have R6 := Lib.hid r6; have N6 := Lib.hid o6; clear r6 o6 z6))
  have NN : Only (fun x => x = w2.heap.size ∨ x = w.heap.size) w3 w6 := ((N4.out.mono (fun x _ e => .inl e))).trans (N6.out.mono (fun x _ e => .inr e))
  have hd : tn17v B R self peer own = ⟨B, (R : Int), self, peer, own, 0, false, 0, 0, new15 R, 0, 0, 0, 0, 0, 0, [], 0⟩ := by have hp := HP.out; unfold tn17v; rw [if_neg (by omega)]
  rw [hd]
  have hb : Below w.heap.size w w6 := Only.below B3.out NN (by have := B3.out.size; omega) (fun x hx e => by omega)
  exact bodyPost_ret (tv_results Tryz.results9 rfl R6.out) rfl ⟨_, _, _, _, _, _, rfl, ⟨(T3.out.only NN (fun x hx e => by subst e; rcases hx with hx | hx <;> omega)).weak (fun x _ e => .inr (by subst e; omega)), Lies.nil_ _ _, cap_nil⟩, hb⟩
theorem rnew17_any (B : Int) (R : Nat) (self peer own : Int) (h64 : R ≤ 64) (w : World) :
    Calls Tryz.prog 9 #[.int .i64 B, .int .i64 (R : Int), .int .i64 self, .int .i64 peer, .int .i64 own] w (TVP (fun _ => False) (tn17v B R self peer own) w) := by
  by_cases hp : 0 < own
  · exact rnew17_yes B R self peer own h64 w hp
  · exact rnew17_no B R self peer own h64 w hp
end
end

section
open Go.ChangeShapes Go.WideShapes Go.ChangeAt Go.RowKit
/-- The taker behind LOOK and READ; behind OVER, with the same epoch. -/
def readT (G : Tv) (x : Int) : Tv :=
  if G.at_ = 6 then
    if subW x G.head = 0 then { G with at_ := 14, ans := 6 } else if G.R - ((onL15 G.tab G.tab.length).length : Int) < subW x G.head then { G with at_ := 14, ans := 10 } else { G with at_ := 7 }
  else if G.at_ = 7 then
    if G.R ≤ x then { G with at_ := 14, ans := 10 } else if (G.tab[x.toNat]?.map (·.2)) = some true then { G with at_ := 14, ans := 10 } else { G with d := x, at_ := 8 }
  else if G.at_ = 8 then
    if 8 < x then { G with at_ := 14, ans := 10 } else if x = 0 then { G with many := x, i := 0, load := [], at_ := 14, ans := 0 } else { G with many := x, i := 0, load := [], at_ := 9 }
  else if G.i + 1 = G.many then { G with load := G.load ++ [x], i := G.i + 1, at_ := 14, ans := 0 } else { G with load := G.load ++ [x], i := G.i + 1 }
def overT (G : Tv) : Tv :=
  if G.ans ≠ 0 then { G with load := [] } else if 0 ≤ G.handle then { G with used := addW G.used 1 } else { G with head := addW G.head 1, tab := giveL15 G.tab G.d, got := giveV15 G.tab G.d }
section
variable {At Al : Option Addr} {nt ct nl cl : Nat}
theorem tvp_keep {P : Nat → Prop} {G G' : Tv} {w w' : World} {e : Ending} (r : TvL w P G (.slice At nt ct) (.slice Al nl cl)) (ht : G'.tab = G.tab) (hl : G'.load = G.load) (h : e = .returned (tvV G' (.slice At nt ct) (.slice Al nl cl)) ∧ Below w.heap.size w w') : TVP P G' w e w' :=
  ⟨_, _, _, _, _, _, h.1, ⟨by rw [ht]; exact (r.tab.below h.2).weak (fun _ _ p => .inl p), by rw [hl]; exact (r.load.below h.2).weak (fun _ _ p => .inl p), r.cl⟩, h.2⟩
theorem tvp_drop {P : Nat → Prop} {G G' : Tv} {w w' : World} {e : Ending} (r : TvL w P G (.slice At nt ct) (.slice Al nl cl)) (ht : G'.tab = G.tab) (hl : G'.load = []) (h : e = .returned (tvV G' (.slice At nt ct) (.slice none 0 0)) ∧ Below w.heap.size w w') : TVP P G' w e w' :=
  ⟨_, _, _, _, _, _, h.1, ⟨by rw [ht]; exact (r.tab.below h.2).weak (fun _ _ p => .inl p), by rw [hl]; exact Lies.nil_ _ _, cap_nil⟩, h.2⟩
theorem tva_keep {P : Nat → Prop} {G G' : Tv} {n : Int} {w w' : World} {e : Ending} (r : TvL w P G (.slice At nt ct) (.slice Al nl cl)) (ht : G'.tab = G.tab) (hl : G'.load = G.load) (h : e = .returned (.tuple #[tvV G' (.slice At nt ct) (.slice Al nl cl), .int .i64 n]) ∧ Below w.heap.size w w') : TVA P G' n w e w' :=
  ⟨_, _, _, _, _, _, h.1, ⟨by rw [ht]; exact (r.tab.below h.2).weak (fun _ _ p => .inl p), by rw [hl]; exact (r.load.below h.2).weak (fun _ _ p => .inl p), r.cl⟩, h.2⟩
theorem tva_drop {P : Nat → Prop} {G G' : Tv} {n : Int} {w w' : World} {e : Ending} (r : TvL w P G (.slice At nt ct) (.slice Al nl cl)) (ht : G'.tab = G.tab) (hl : G'.load = []) (h : e = .returned (.tuple #[tvV G' (.slice At nt ct) (.slice none 0 0), .int .i64 n]) ∧ Below w.heap.size w w') : TVA P G' n w e w' :=
  ⟨_, _, _, _, _, _, h.1, ⟨by rw [ht]; exact (r.tab.below h.2).weak (fun _ _ p => .inl p), by rw [hl]; exact Lies.nil_ _ _, cap_nil⟩, h.2⟩
theorem tread_any (P : Nat → Prop) (G : Tv) (x : Int) (w : World) (r : TvL w P G (.slice At nt ct) (.slice Al nl cl)) (h : 6 ≤ G.at_ ∧ G.at_ ≤ 9) (hx : 0 ≤ x) (hR : (G.tab.length : Int) = G.R) (h64 : G.tab.length ≤ 64) (hl : G.load.length ≤ 100) (hi : G.at_ = 9 → 0 ≤ G.i ∧ G.i ≤ 100) :
    Calls Tryz.prog 65 #[tvV G (.slice At nt ct) (.slice Al nl cl), .int .i64 x] w (TVP P (readT G x) w) := by
  have hm := onL15_len G.tab G.tab.length
  unfold readT
  by_cases h6 : G.at_ = 6
  · rw [if_pos h6]
    by_cases h0 : subW x G.head = 0
    · rw [if_pos h0]; exact (tread_empty G x w h6 h0).mono fun _ _ h => tvp_keep r rfl rfl h
    · rw [if_neg h0]
      by_cases hn : G.R - ((onL15 G.tab G.tab.length).length : Int) < subW x G.head
      · rw [if_pos hn]; exact (tread_full P G x w h6 h0 r.tab h64 (by omega) (by omega) hn).mono fun _ _ h => tvp_keep r rfl rfl h
      · rw [if_neg hn]; exact (tread_look P G x w h6 h0 r.tab h64 (by omega) (by omega) hn).mono fun _ _ h => tvp_keep r rfl rfl h
  rw [if_neg h6]
  by_cases h7 : G.at_ = 7
  · rw [if_pos h7]
    by_cases h0 : G.R ≤ x
    · rw [if_pos h0]; exact (tread_slot_big G x w h7 h0).mono fun _ _ h => tvp_keep r rfl rfl h
    · rw [if_neg h0]
      obtain ⟨k, rfl⟩ : ∃ k : Nat, x = k := ⟨x.toNat, by omega⟩
      have hk : k < G.tab.length := by omega
      rw [show ((k : Int)).toNat = k from rfl]
      obtain ⟨e, b⟩ : Int × Bool := G.tab[k]
      rcases hg : G.tab[k]? with _ | ⟨e, b⟩
      · rw [List.getElem?_eq_none_iff] at hg; omega
      · cases b
        · rw [if_neg (by simp)]; exact (tread_slot_free P G k e w h7 r.tab hg (by omega)).mono fun _ _ h => tvp_keep r rfl rfl h
        · rw [if_pos (by simp)]; exact (tread_slot_held P G k e w h7 r.tab hg (by omega)).mono fun _ _ h => tvp_keep r rfl rfl h
  rw [if_neg h7]
  by_cases h8 : G.at_ = 8
  · rw [if_pos h8]
    by_cases h0 : 8 < x
    · rw [if_pos h0]; exact (tread_size_big G x w h8 h0).mono fun _ _ h => tvp_keep r rfl rfl h
    · rw [if_neg h0]
      by_cases hz : x = 0
      · rw [if_pos hz]; exact (tread_size_none G x w h8 hz).mono fun _ _ h => tvp_drop r rfl rfl h
      · rw [if_neg hz]; exact (tread_size G x w h8 (by omega)).mono fun _ _ h => tvp_drop r rfl rfl h
  rw [if_neg h8]
  have h9 : G.at_ = 9 := by omega
  by_cases hm : G.i + 1 = G.many
  · rw [if_pos hm]; exact tread_word_end P G x w r h9 hl (hi h9) hm
  · rw [if_neg hm]; exact tread_word P G x w r h9 hl (hi h9) hm
theorem tend_any (P : Nat → Prop) (G : Tv) (w : World) (r : TvL w P G (.slice At nt ct) (.slice Al nl cl)) (h64 : G.tab.length ≤ 64) :
    Calls Tryz.prog 67 #[tvV G (.slice At nt ct) (.slice Al nl cl)] w (TVP P (overT G) w) := by
  unfold overT
  by_cases ha : G.ans = 0
  · rw [if_neg (fun h => h ha)]
    by_cases hh : 0 ≤ G.handle
    · rw [if_pos hh]; exact (tend_rel G w ha hh).mono fun _ _ h => tvp_keep r rfl rfl h
    · rw [if_neg hh]; exact tend_give P G w ha hh r h64
  · rw [if_pos ha]; exact (tend_bad G w ha).mono fun _ _ h => tvp_drop r rfl rfl h
set_option maxRecDepth 100000 in
set_option maxHeartbeats 2000000 in
theorem taft_read6 (P : Nat → Prop) (G : Tv) (x : Int) (w : World) (r : TvL w P G (.slice At nt ct) (.slice Al nl cl)) (h1 : G.at_ = 6) (hx : 0 ≤ x) (hR : (G.tab.length : Int) = G.R) (h64 : G.tab.length ≤ 64) (hl : G.load.length ≤ 100) (hi : G.at_ = 9 → 0 ≤ G.i ∧ G.i ≤ 100) :
    Calls Tryz.prog 40 #[tvV G (.slice At nt ct) (.slice Al nl cl), .int .i64 x] w (TVA P (readT G x) (-1) w) := by
  have HSZ := Lib.hid (fun (H : Tv) (a b : Value) => (tv_size.trans (congrArg some (tv_len H a b).symm)))
  have h : 6 ≤ G.at_ ∧ G.at_ ≤ 9 := by omega
  have H1 := Lib.hid h1
  have KR := Lib.hid (fun W (hb : Below w.heap.size w W) => tread_any (fun x => (P x ∧ x < w.heap.size) ∨ W.heap.size ≤ x) G x W (((r.weak (fun _ hg p => And.intro p hg)).below hb).weak (fun g _ hg => .inl hg)) h hx hR h64 hl hi)
  unfold tvV at KR
  clear h h1 r hR hi hl
  unfold tvV
  go_enter Tryz.func40, Tryz.ntmps40
  go_wp2_with (first
    | ((with_reducible refine box_walk rfl 37 (.tmp 0) rfl (tvC G (.slice At nt ct) (.slice Al nl cl)) rfl ?_); intro w1 r1 b1 z1; have R1 := Lib.hid r1; have B1 := Lib.hid b1; have hlt1 := r1.lt; clear r1 b1 z1)
    | ((with_reducible refine alloc_walk (o := ⟨some 4, _, _, _, _, _⟩) rfl 37 rfl _ tv_zero ?_); go_must (intro w2 r2 b2 z2; have R2 := Lib.hid (R1.out.below b2); have Q2 := Lib.hid r2; have B2 := Lib.hid (below_on B1.out b2); have hlt2 := r2.lt; have c10 := R2.out.cell 10; have f10 := R2.out.soft 10; simp only [tvC, List.getElem?_cons_zero, List.getElem?_cons_succ] at c10; rw [H1.out] at c10; have OM0 : Hid (Only (fun k => k = w.heap.size) w2 w2) := Lib.hid (Only.refl (fun k => k = w.heap.size) w2); have RM0 : Hid (Row w2 w.heap.size 37 (tvC G (.slice At nt ct) (.slice Al nl cl))) := Lib.hid R2.out; have QM0 : Hid (Row w2 w1.heap.size 37 tvZ) := Lib.hid Q2.out; have BM0 : Hid (Below w.heap.size w w2) := Lib.hid B2.out; clear r2 b2 z2))
    | (with_reducible refine loadRow_walk rfl 37 (.tmp 2) rfl w.heap.size rfl (tvC G (.slice At nt ct) (.slice Al nl cl)) tv_struct (HSZ.out _ _ _) 37 RM0.out ?_)
    | (go_at_call 65; refine (KR.out _ BM0.out).mono ?_; rintro e w8 ⟨A8, n8, k8, B8, m8, j8, rfl, t8, b8⟩; go_must (have T8 := Lib.hid t8; clear t8; have R1x := Lib.hid (RM0.out.below b8); have Q1x := Lib.hid (QM0.out.below b8); have B1x := Lib.hid (below_on BM0.out b8); have NB1 := Lib.hid b8; clear c10 f10; have OM1 : Hid (Only (fun k => k = w.heap.size) w8 w8) := Lib.hid (Only.refl (fun k => k = w.heap.size) w8); have RM1 : Hid (Row w8 w.heap.size 37 (tvC G (.slice At nt ct) (.slice Al nl cl))) := Lib.hid R1x.out; have QM1 : Hid (Row w8 w1.heap.size 37 tvZ) := Lib.hid Q1x.out; have BM1 : Hid (Below w.heap.size w w8) := Lib.hid B1x.out; clear b8))
    | ((with_reducible refine storeRow_walk rfl 37 (.tmp 4) (.tmp 56) rfl w1.heap.size rfl (tvC (readT G x) (.slice A8 n8 k8) (.slice B8 m8 j8)) rfl (HSZ.out _ _ _) 37 tvZ QM1.out rfl (tv_one _) ?_); intro w9 r9 o9 z9; have R9 := Lib.hid r9; have B9 := Lib.hid (Only.below BM1.out o9 BM1.out.size (fun k hk e => by subst e; omega)); have O9 := Lib.hid o9; clear r9 o9 z9))
  have hb2 := BM0.out.size
  have ht := (T8.out.only O9.out (fun g hg p => by subst hg; rcases p with (p | p) | p <;> omega)).weak (Q := fun x => P x ∨ w.heap.size ≤ x) (fun g _ p => by rcases p with (p | p) | p <;> first | exact .inl p.1 | exact .inr (by omega))
  exact bodyPost_ret (tv_results2 Tryz.results40 rfl rfl R9.out) rfl ⟨_, _, _, _, _, _, rfl, ht, B9.out⟩
set_option maxRecDepth 100000 in
set_option maxHeartbeats 2000000 in
theorem taft_read7 (P : Nat → Prop) (G : Tv) (x : Int) (w : World) (r : TvL w P G (.slice At nt ct) (.slice Al nl cl)) (h1 : G.at_ = 7) (hx : 0 ≤ x) (hR : (G.tab.length : Int) = G.R) (h64 : G.tab.length ≤ 64) (hl : G.load.length ≤ 100) (hi : G.at_ = 9 → 0 ≤ G.i ∧ G.i ≤ 100) :
    Calls Tryz.prog 40 #[tvV G (.slice At nt ct) (.slice Al nl cl), .int .i64 x] w (TVA P (readT G x) (-1) w) := by
  have HSZ := Lib.hid (fun (H : Tv) (a b : Value) => (tv_size.trans (congrArg some (tv_len H a b).symm)))
  have h : 6 ≤ G.at_ ∧ G.at_ ≤ 9 := by omega
  have H1 := Lib.hid h1
  have KR := Lib.hid (fun W (hb : Below w.heap.size w W) => tread_any (fun x => (P x ∧ x < w.heap.size) ∨ W.heap.size ≤ x) G x W (((r.weak (fun _ hg p => And.intro p hg)).below hb).weak (fun g _ hg => .inl hg)) h hx hR h64 hl hi)
  unfold tvV at KR
  clear h h1 r hR hi hl
  unfold tvV
  go_enter Tryz.func40, Tryz.ntmps40
  go_wp2_with (first
    | ((with_reducible refine box_walk rfl 37 (.tmp 0) rfl (tvC G (.slice At nt ct) (.slice Al nl cl)) rfl ?_); intro w1 r1 b1 z1; have R1 := Lib.hid r1; have B1 := Lib.hid b1; have hlt1 := r1.lt; clear r1 b1 z1)
    | ((with_reducible refine alloc_walk (o := ⟨some 4, _, _, _, _, _⟩) rfl 37 rfl _ tv_zero ?_); go_must (intro w2 r2 b2 z2; have R2 := Lib.hid (R1.out.below b2); have Q2 := Lib.hid r2; have B2 := Lib.hid (below_on B1.out b2); have hlt2 := r2.lt; have c10 := R2.out.cell 10; have f10 := R2.out.soft 10; simp only [tvC, List.getElem?_cons_zero, List.getElem?_cons_succ] at c10; rw [H1.out] at c10; have OM0 : Hid (Only (fun k => k = w.heap.size) w2 w2) := Lib.hid (Only.refl (fun k => k = w.heap.size) w2); have RM0 : Hid (Row w2 w.heap.size 37 (tvC G (.slice At nt ct) (.slice Al nl cl))) := Lib.hid R2.out; have QM0 : Hid (Row w2 w1.heap.size 37 tvZ) := Lib.hid Q2.out; have BM0 : Hid (Below w.heap.size w w2) := Lib.hid B2.out; clear r2 b2 z2))
    | (with_reducible refine loadRow_walk rfl 37 (.tmp 2) rfl w.heap.size rfl (tvC G (.slice At nt ct) (.slice Al nl cl)) tv_struct (HSZ.out _ _ _) 37 RM0.out ?_)
    | (go_at_call 65; refine (KR.out _ BM0.out).mono ?_; rintro e w8 ⟨A8, n8, k8, B8, m8, j8, rfl, t8, b8⟩; go_must (have T8 := Lib.hid t8; clear t8; have R1x := Lib.hid (RM0.out.below b8); have Q1x := Lib.hid (QM0.out.below b8); have B1x := Lib.hid (below_on BM0.out b8); have NB1 := Lib.hid b8; clear c10 f10; have OM1 : Hid (Only (fun k => k = w.heap.size) w8 w8) := Lib.hid (Only.refl (fun k => k = w.heap.size) w8); have RM1 : Hid (Row w8 w.heap.size 37 (tvC G (.slice At nt ct) (.slice Al nl cl))) := Lib.hid R1x.out; have QM1 : Hid (Row w8 w1.heap.size 37 tvZ) := Lib.hid Q1x.out; have BM1 : Hid (Below w.heap.size w w8) := Lib.hid B1x.out; clear b8))
    | ((with_reducible refine storeRow_walk rfl 37 (.tmp 4) (.tmp 56) rfl w1.heap.size rfl (tvC (readT G x) (.slice A8 n8 k8) (.slice B8 m8 j8)) rfl (HSZ.out _ _ _) 37 tvZ QM1.out rfl (tv_one _) ?_); intro w9 r9 o9 z9; have R9 := Lib.hid r9; have B9 := Lib.hid (Only.below BM1.out o9 BM1.out.size (fun k hk e => by subst e; omega)); have O9 := Lib.hid o9; clear r9 o9 z9))
  have hb2 := BM0.out.size
  have ht := (T8.out.only O9.out (fun g hg p => by subst hg; rcases p with (p | p) | p <;> omega)).weak (Q := fun x => P x ∨ w.heap.size ≤ x) (fun g _ p => by rcases p with (p | p) | p <;> first | exact .inl p.1 | exact .inr (by omega))
  exact bodyPost_ret (tv_results2 Tryz.results40 rfl rfl R9.out) rfl ⟨_, _, _, _, _, _, rfl, ht, B9.out⟩
set_option maxRecDepth 100000 in
set_option maxHeartbeats 2000000 in
theorem taft_read8 (P : Nat → Prop) (G : Tv) (x : Int) (w : World) (r : TvL w P G (.slice At nt ct) (.slice Al nl cl)) (h1 : G.at_ = 8) (hx : 0 ≤ x) (hR : (G.tab.length : Int) = G.R) (h64 : G.tab.length ≤ 64) (hl : G.load.length ≤ 100) (hi : G.at_ = 9 → 0 ≤ G.i ∧ G.i ≤ 100) :
    Calls Tryz.prog 40 #[tvV G (.slice At nt ct) (.slice Al nl cl), .int .i64 x] w (TVA P (readT G x) (-1) w) := by
  have HSZ := Lib.hid (fun (H : Tv) (a b : Value) => (tv_size.trans (congrArg some (tv_len H a b).symm)))
  have h : 6 ≤ G.at_ ∧ G.at_ ≤ 9 := by omega
  have H1 := Lib.hid h1
  have KR := Lib.hid (fun W (hb : Below w.heap.size w W) => tread_any (fun x => (P x ∧ x < w.heap.size) ∨ W.heap.size ≤ x) G x W (((r.weak (fun _ hg p => And.intro p hg)).below hb).weak (fun g _ hg => .inl hg)) h hx hR h64 hl hi)
  unfold tvV at KR
  clear h h1 r hR hi hl
  unfold tvV
  go_enter Tryz.func40, Tryz.ntmps40
  go_wp2_with (first
    | ((with_reducible refine box_walk rfl 37 (.tmp 0) rfl (tvC G (.slice At nt ct) (.slice Al nl cl)) rfl ?_); intro w1 r1 b1 z1; have R1 := Lib.hid r1; have B1 := Lib.hid b1; have hlt1 := r1.lt; clear r1 b1 z1)
    | ((with_reducible refine alloc_walk (o := ⟨some 4, _, _, _, _, _⟩) rfl 37 rfl _ tv_zero ?_); go_must (intro w2 r2 b2 z2; have R2 := Lib.hid (R1.out.below b2); have Q2 := Lib.hid r2; have B2 := Lib.hid (below_on B1.out b2); have hlt2 := r2.lt; have c10 := R2.out.cell 10; have f10 := R2.out.soft 10; simp only [tvC, List.getElem?_cons_zero, List.getElem?_cons_succ] at c10; rw [H1.out] at c10; have OM0 : Hid (Only (fun k => k = w.heap.size) w2 w2) := Lib.hid (Only.refl (fun k => k = w.heap.size) w2); have RM0 : Hid (Row w2 w.heap.size 37 (tvC G (.slice At nt ct) (.slice Al nl cl))) := Lib.hid R2.out; have QM0 : Hid (Row w2 w1.heap.size 37 tvZ) := Lib.hid Q2.out; have BM0 : Hid (Below w.heap.size w w2) := Lib.hid B2.out; clear r2 b2 z2))
    | (with_reducible refine loadRow_walk rfl 37 (.tmp 2) rfl w.heap.size rfl (tvC G (.slice At nt ct) (.slice Al nl cl)) tv_struct (HSZ.out _ _ _) 37 RM0.out ?_)
    | (go_at_call 65; refine (KR.out _ BM0.out).mono ?_; rintro e w8 ⟨A8, n8, k8, B8, m8, j8, rfl, t8, b8⟩; go_must (have T8 := Lib.hid t8; clear t8; have R1x := Lib.hid (RM0.out.below b8); have Q1x := Lib.hid (QM0.out.below b8); have B1x := Lib.hid (below_on BM0.out b8); have NB1 := Lib.hid b8; clear c10 f10; have OM1 : Hid (Only (fun k => k = w.heap.size) w8 w8) := Lib.hid (Only.refl (fun k => k = w.heap.size) w8); have RM1 : Hid (Row w8 w.heap.size 37 (tvC G (.slice At nt ct) (.slice Al nl cl))) := Lib.hid R1x.out; have QM1 : Hid (Row w8 w1.heap.size 37 tvZ) := Lib.hid Q1x.out; have BM1 : Hid (Below w.heap.size w w8) := Lib.hid B1x.out; clear b8))
    | ((with_reducible refine storeRow_walk rfl 37 (.tmp 4) (.tmp 56) rfl w1.heap.size rfl (tvC (readT G x) (.slice A8 n8 k8) (.slice B8 m8 j8)) rfl (HSZ.out _ _ _) 37 tvZ QM1.out rfl (tv_one _) ?_); intro w9 r9 o9 z9; have R9 := Lib.hid r9; have B9 := Lib.hid (Only.below BM1.out o9 BM1.out.size (fun k hk e => by subst e; omega)); have O9 := Lib.hid o9; clear r9 o9 z9))
  have hb2 := BM0.out.size
  have ht := (T8.out.only O9.out (fun g hg p => by subst hg; rcases p with (p | p) | p <;> omega)).weak (Q := fun x => P x ∨ w.heap.size ≤ x) (fun g _ p => by rcases p with (p | p) | p <;> first | exact .inl p.1 | exact .inr (by omega))
  exact bodyPost_ret (tv_results2 Tryz.results40 rfl rfl R9.out) rfl ⟨_, _, _, _, _, _, rfl, ht, B9.out⟩
set_option maxRecDepth 100000 in
set_option maxHeartbeats 2000000 in
theorem taft_read9 (P : Nat → Prop) (G : Tv) (x : Int) (w : World) (r : TvL w P G (.slice At nt ct) (.slice Al nl cl)) (h1 : G.at_ = 9) (hx : 0 ≤ x) (hR : (G.tab.length : Int) = G.R) (h64 : G.tab.length ≤ 64) (hl : G.load.length ≤ 100) (hi : G.at_ = 9 → 0 ≤ G.i ∧ G.i ≤ 100) :
    Calls Tryz.prog 40 #[tvV G (.slice At nt ct) (.slice Al nl cl), .int .i64 x] w (TVA P (readT G x) (-1) w) := by
  have HSZ := Lib.hid (fun (H : Tv) (a b : Value) => (tv_size.trans (congrArg some (tv_len H a b).symm)))
  have h : 6 ≤ G.at_ ∧ G.at_ ≤ 9 := by omega
  have H1 := Lib.hid h1
  have KR := Lib.hid (fun W (hb : Below w.heap.size w W) => tread_any (fun x => (P x ∧ x < w.heap.size) ∨ W.heap.size ≤ x) G x W (((r.weak (fun _ hg p => And.intro p hg)).below hb).weak (fun g _ hg => .inl hg)) h hx hR h64 hl hi)
  unfold tvV at KR
  clear h h1 r hR hi hl
  unfold tvV
  go_enter Tryz.func40, Tryz.ntmps40
  go_wp2_with (first
    | ((with_reducible refine box_walk rfl 37 (.tmp 0) rfl (tvC G (.slice At nt ct) (.slice Al nl cl)) rfl ?_); intro w1 r1 b1 z1; have R1 := Lib.hid r1; have B1 := Lib.hid b1; have hlt1 := r1.lt; clear r1 b1 z1)
    | ((with_reducible refine alloc_walk (o := ⟨some 4, _, _, _, _, _⟩) rfl 37 rfl _ tv_zero ?_); go_must (intro w2 r2 b2 z2; have R2 := Lib.hid (R1.out.below b2); have Q2 := Lib.hid r2; have B2 := Lib.hid (below_on B1.out b2); have hlt2 := r2.lt; have c10 := R2.out.cell 10; have f10 := R2.out.soft 10; simp only [tvC, List.getElem?_cons_zero, List.getElem?_cons_succ] at c10; rw [H1.out] at c10; have OM0 : Hid (Only (fun k => k = w.heap.size) w2 w2) := Lib.hid (Only.refl (fun k => k = w.heap.size) w2); have RM0 : Hid (Row w2 w.heap.size 37 (tvC G (.slice At nt ct) (.slice Al nl cl))) := Lib.hid R2.out; have QM0 : Hid (Row w2 w1.heap.size 37 tvZ) := Lib.hid Q2.out; have BM0 : Hid (Below w.heap.size w w2) := Lib.hid B2.out; clear r2 b2 z2))
    | (with_reducible refine loadRow_walk rfl 37 (.tmp 2) rfl w.heap.size rfl (tvC G (.slice At nt ct) (.slice Al nl cl)) tv_struct (HSZ.out _ _ _) 37 RM0.out ?_)
    | (go_at_call 65; refine (KR.out _ BM0.out).mono ?_; rintro e w8 ⟨A8, n8, k8, B8, m8, j8, rfl, t8, b8⟩; go_must (have T8 := Lib.hid t8; clear t8; have R1x := Lib.hid (RM0.out.below b8); have Q1x := Lib.hid (QM0.out.below b8); have B1x := Lib.hid (below_on BM0.out b8); have NB1 := Lib.hid b8; clear c10 f10; have OM1 : Hid (Only (fun k => k = w.heap.size) w8 w8) := Lib.hid (Only.refl (fun k => k = w.heap.size) w8); have RM1 : Hid (Row w8 w.heap.size 37 (tvC G (.slice At nt ct) (.slice Al nl cl))) := Lib.hid R1x.out; have QM1 : Hid (Row w8 w1.heap.size 37 tvZ) := Lib.hid Q1x.out; have BM1 : Hid (Below w.heap.size w w8) := Lib.hid B1x.out; clear b8))
    | ((with_reducible refine storeRow_walk rfl 37 (.tmp 4) (.tmp 56) rfl w1.heap.size rfl (tvC (readT G x) (.slice A8 n8 k8) (.slice B8 m8 j8)) rfl (HSZ.out _ _ _) 37 tvZ QM1.out rfl (tv_one _) ?_); intro w9 r9 o9 z9; have R9 := Lib.hid r9; have B9 := Lib.hid (Only.below BM1.out o9 BM1.out.size (fun k hk e => by subst e; omega)); have O9 := Lib.hid o9; clear r9 o9 z9))
  have hb2 := BM0.out.size
  have ht := (T8.out.only O9.out (fun g hg p => by subst hg; rcases p with (p | p) | p <;> omega)).weak (Q := fun x => P x ∨ w.heap.size ≤ x) (fun g _ p => by rcases p with (p | p) | p <;> first | exact .inl p.1 | exact .inr (by omega))
  exact bodyPost_ret (tv_results2 Tryz.results40 rfl rfl R9.out) rfl ⟨_, _, _, _, _, _, rfl, ht, B9.out⟩
end
end

section
open Go.ChangeShapes Go.WideShapes Go.ChangeAt Go.RowKit
section
variable {At Al : Option Addr} {nt ct nl cl : Nat}
set_option maxRecDepth 100000 in
set_option maxHeartbeats 4000000 in
theorem taft_settle (P : Nat → Prop) (G : Tv) (x : Int) (R : Nat) (w : World) (r : TvL w P G (.slice At nt ct) (.slice Al nl cl)) (h : G.at_ = 4) (hR : G.R = (R : Int)) (h64 : R ≤ 64) (ht64 : G.tab.length ≤ 64) :
    Calls Tryz.prog 40 #[tvV G (.slice At nt ct) (.slice Al nl cl), .int .i64 x] w (TVA P { tn17v G.B R G.self G.peer G.own with known := G.known, tab := clearL15 G.tab } 8 w) := by
  have HSZ := Lib.hid (fun (H : Tv) (a b : Value) => (tv_size.trans (congrArg some (tv_len H a b).symm)))
  have H1 := Lib.hid h
  have HR := Lib.hid hR
  have KN := Lib.hid (fun W => rnew17_any G.B R G.self G.peer G.own h64 W)
  unfold tvV at KN
  have KC := Lib.hid (fun W (hb : Below w.heap.size w W) => rclear15_any (fun x => (P x ∧ x < w.heap.size) ∨ W.heap.size ≤ x) _ G.tab W (((r.tab.weak (fun _ hg p => And.intro p hg)).below hb).weak (fun g _ hg => .inl hg)) ht64 (fun b hx => .inr hx))
  clear h hR r
  unfold tvV
  go_enter Tryz.func40, Tryz.ntmps40
  go_wp2_with (first
    | ((with_reducible refine box_walk rfl 37 (.tmp 0) rfl (tvC G (.slice At nt ct) (.slice Al nl cl)) rfl ?_); intro w1 r1 b1 z1; have R1 := Lib.hid r1; have B1 := Lib.hid b1; have hlt1 := r1.lt; clear r1 b1 z1)
    | ((with_reducible refine alloc_walk (o := ⟨some 4, _, _, _, _, _⟩) rfl 37 rfl _ tv_zero ?_); go_must (intro w2 r2 b2 z2; have R2 := Lib.hid (R1.out.below b2); have Q2 := Lib.hid r2; have B2 := Lib.hid (below_on B1.out b2); have hlt2 := r2.lt; have c0 := R2.out.cell 0; have f0 := R2.out.soft 0; have c1 := R2.out.cell 1; have f1 := R2.out.soft 1; have c2 := R2.out.cell 2; have f2 := R2.out.soft 2; have c3 := R2.out.cell 3; have f3 := R2.out.soft 3; have c4 := R2.out.cell 4; have f4 := R2.out.soft 4; have c5 := R2.out.cell 5; have f5 := R2.out.soft 5; have c9 := R2.out.cell 9; have f9 := R2.out.soft 9; have c10 := R2.out.cell 10; have f10 := R2.out.soft 10; simp only [tvC, List.getElem?_cons_zero, List.getElem?_cons_succ] at c0 c1 c2 c3 c4 c5 c9 c10; rw [H1.out] at c10; rw [HR.out] at c1; have OM0 : Hid (Only (fun k => k = w.heap.size) w2 w2) := Lib.hid (Only.refl (fun k => k = w.heap.size) w2); have RM0 : Hid (Row w2 w.heap.size 37 (tvC G (.slice At nt ct) (.slice Al nl cl))) := Lib.hid R2.out; have QM0 : Hid (Row w2 w1.heap.size 37 tvZ) := Lib.hid Q2.out; have BM0 : Hid (Below w.heap.size w w2) := Lib.hid B2.out; clear r2 b2 z2))
    | (go_at_call 9; refine (KN.out _).mono ?_; rintro e w7 ⟨A7, n7, k7, B7, m7, j7, rfl, t7, b7⟩; go_must (have R7 := Lib.hid (RM0.out.below b7); have Q7 := Lib.hid (QM0.out.below b7); have B7x := Lib.hid (below_on BM0.out b7); have S7 := Lib.hid b7.size; have T7 := Lib.hid (t7.weak (Q := fun x => w2.heap.size ≤ x ∧ x < w7.heap.size) (fun x hx p => And.intro (by rcases p with p | p; exact absurd p id; exact p) hx)); clear c0 f0 c1 f1 c2 f2 c3 f3 c4 f4 c5 f5 c9 f9 c10 f10; clear b7 t7))
    | ((with_reducible refine alloc_walk (o := ⟨some 6, _, _, _, _, _⟩) rfl 37 rfl _ tv_zero ?_); go_must (intro w3 r3 b3 z3; have X3 := Lib.hid r3; have R3 := Lib.hid (R7.out.below b3); have Q3 := Lib.hid (Q7.out.below b3); have B3 := Lib.hid (below_on B7x.out b3); have T3 := Lib.hid (T7.out.below b3); have hlt7 := r3.lt; have hs7 := S7.out; clear r3 b3 z3))
    | ((with_reducible refine storeRow_walk rfl 37 (.tmp 6) (.tmp 26) rfl w7.heap.size rfl (tvC (tn17v G.B R G.self G.peer G.own) (.slice A7 n7 k7) (.slice B7 m7 j7)) rfl (HSZ.out _ _ _) 37 tvZ X3.out rfl (tv_one _) ?_); intro w4 r4 o4 z4; go_must (have R4 := Lib.hid (R3.out.only o4 (fun e => by omega)); have X4 := Lib.hid r4; have B4 := Lib.hid (Only.below B3.out o4 B3.out.size (fun x hx e => by omega)); have c5 := R4.out.cell 5; have c9 := R4.out.cell 9; have d5 := X4.out.cell 5; have e5 := X4.out.soft 5; simp only [tvC, List.getElem?_cons_zero, List.getElem?_cons_succ] at c5 c9 d5; have X5 : Hid (Row (w4.setCell ⟨w7.heap.size, 5, none⟩ (.int .i64 G.known)) w7.heap.size 37 (tvC { tn17v G.B R G.self G.peer G.own with known := G.known } (.slice A7 n7 k7) (.slice B7 m7 j7))) := Lib.hid (X4.out.put 5 (.int .i64 G.known)); have Q5 : Hid (Row (w4.setCell ⟨w7.heap.size, 5, none⟩ (.int .i64 G.known)) w1.heap.size 37 tvZ) := Lib.hid ((Q3.out.only o4 (fun e => by omega)).far (p := ⟨w7.heap.size, 5, none⟩) (by show w1.heap.size ≠ w7.heap.size; omega) (.int .i64 G.known)); have B5 : Hid (Below w.heap.size w (w4.setCell ⟨w7.heap.size, 5, none⟩ (.int .i64 G.known))) := Lib.hid (B4.out.setCell (p := ⟨w7.heap.size, 5, none⟩) (by show w.heap.size ≤ w7.heap.size; omega) (.int .i64 G.known)); have o5 := only_put17 w4 w7.heap.size 5 (.int .i64 G.known); have T5 := Lib.hid ((T3.out.only o4 (fun x hx p => by omega)).only o5 (fun x hx p => by omega)); have S5 := Lib.hid (show w7.heap.size < (w4.setCell ⟨w7.heap.size, 5, none⟩ (.int .i64 G.known)).heap.size by have := o4.size; have := o5.size; omega); clear r4 o4 z4 o5))
    | (go_at_call 64; refine (KC.out _ B5.out).mono ?_; rintro e w8 ⟨v8, rfl, t8, b8⟩; go_must (obtain ⟨A8, n8, k8, rfl, HN8, T8⟩ := t8.open_; have X8 := Lib.hid (X5.out.below b8); clear d5 e5 c5 c9; have d9 := X8.out.cell 9; have e9 := X8.out.soft 9; simp only [tvC, List.getElem?_cons_zero, List.getElem?_cons_succ] at d9; have X9 : Hid (Row (w8.setCell ⟨w7.heap.size, 9, none⟩ (.slice A8 n8 k8)) w7.heap.size 37 (tvC { tn17v G.B R G.self G.peer G.own with known := G.known, tab := clearL15 G.tab } (.slice A8 n8 k8) (.slice B7 m7 j7))) := Lib.hid (X8.out.put 9 (.slice A8 n8 k8)); have Q9 : Hid (Row (w8.setCell ⟨w7.heap.size, 9, none⟩ (.slice A8 n8 k8)) w1.heap.size 37 tvZ) := Lib.hid ((Q5.out.below b8).far (p := ⟨w7.heap.size, 9, none⟩) (by show w1.heap.size ≠ w7.heap.size; omega) (.slice A8 n8 k8)); have B9x : Hid (Below w.heap.size w (w8.setCell ⟨w7.heap.size, 9, none⟩ (.slice A8 n8 k8))) := Lib.hid ((below_on B5.out b8).setCell (p := ⟨w7.heap.size, 9, none⟩) (by show w.heap.size ≤ w7.heap.size; omega) (.slice A8 n8 k8)); have o9 := only_put17 w8 w7.heap.size 9 (.slice A8 n8 k8); have T9 := Lib.hid ((T5.out.below b8).only o9 (fun x hx p => by omega)); have s5 := S5.out; have T89 := Lib.hid (T8.out.only o9 (fun x hx p => by subst hx; rcases p with p | p <;> omega)); clear t8 HN8 b8 o9))
    | (with_reducible refine loadRow_walk rfl 37 (.tmp 6) rfl w7.heap.size rfl (tvC { tn17v G.B R G.self G.peer G.own with known := G.known, tab := clearL15 G.tab } (.slice A8 n8 k8) (.slice B7 m7 j7)) tv_struct (HSZ.out _ _ _) 37 X9.out ?_)
    | ((with_reducible refine storeRow_walk rfl 37 (.tmp 4) (.tmp 34) rfl w1.heap.size rfl (tvC { tn17v G.B R G.self G.peer G.own with known := G.known, tab := clearL15 G.tab } (.slice A8 n8 k8) (.slice B7 m7 j7)) rfl (HSZ.out _ _ _) 37 tvZ Q9.out rfl (tv_one _) ?_); intro w9 r9 o9 z9; have R9 := Lib.hid r9; have B9 := Lib.hid (Only.below B9x.out o9 B9x.out.size (fun k hk e => by subst e; omega)); have O9 := Lib.hid o9; clear r9 o9 z9))
  have hb2 := BM0.out.size
  have ht := (T89.out.only O9.out (fun g hg p => by subst hg; rcases p with p | p <;> omega)).weak (Q := fun x => P x ∨ w.heap.size ≤ x) (fun g _ p => by rcases p with p | p; exact .inl p.1; exact .inr (by omega))
  have hl := (T9.out.load.only O9.out (fun g hg p => by subst hg; omega)).weak (Q := fun x => P x ∨ w.heap.size ≤ x) (fun g _ p => .inr (by omega))
  exact bodyPost_ret (tv_results2 Tryz.results40 rfl rfl R9.out) rfl ⟨_, _, _, _, _, _, rfl, ⟨ht, hl, T9.out.cl⟩, B9.out⟩
end
end

section
open Go.ChangeShapes Go.WideShapes Go.ChangeAt Go.RowKit
section
variable {At Al : Option Addr} {nt ct nl cl : Nat}
set_option maxRecDepth 100000 in
set_option maxHeartbeats 1000000 in
theorem ttold_busy (G : Tv) (w : World) (h : G.at_ ≠ 0) :
    Calls Tryz.prog 48 #[tvV G (.slice At nt ct) (.slice Al nl cl)] w fun e w' => e = .returned (.tuple #[.slice none 0 0, .int .i64 0]) ∧ Below w.heap.size w w' := by
  have g1 : (G.at_ != 0) = true := by simpa using h
  clear h
  unfold tvV
  go_enter Tryz.func48, Tryz.ntmps48
  go_wp2_with (first
    | ((with_reducible refine box_walk rfl 37 (.tmp 0) rfl (tvC G (.slice At nt ct) (.slice Al nl cl)) rfl ?_); go_must (intro w1 r1 b1 z1; have B1 := Lib.hid b1; have c10 := r1.cell 10; have c17 := r1.cell 17; simp only [tvC, List.getElem?_cons_zero, List.getElem?_cons_succ] at c10 c17; clear r1 b1 z1)))
  go_ret2
  exact ⟨rfl, B1.out⟩
set_option maxRecDepth 100000 in
set_option maxHeartbeats 1000000 in
theorem ttold_none (G : Tv) (w : World) (h : G.at_ = 0) (hg : G.got = 0) :
    Calls Tryz.prog 48 #[tvV G (.slice At nt ct) (.slice Al nl cl)] w fun e w' => e = .returned (.tuple #[.slice none 0 0, .int .i64 0]) ∧ Below w.heap.size w w' := by
  have g1 : (G.at_ != 0) = false := by simpa using h
  have g2 : (G.got == 0) = true := by simpa using hg
  clear h hg
  unfold tvV
  go_enter Tryz.func48, Tryz.ntmps48
  go_wp2_with (first
    | ((with_reducible refine box_walk rfl 37 (.tmp 0) rfl (tvC G (.slice At nt ct) (.slice Al nl cl)) rfl ?_); go_must (intro w1 r1 b1 z1; have B1 := Lib.hid b1; have c10 := r1.cell 10; have c17 := r1.cell 17; simp only [tvC, List.getElem?_cons_zero, List.getElem?_cons_succ] at c10 c17; clear r1 b1 z1)))
  go_ret2
  exact ⟨rfl, B1.out⟩
set_option maxRecDepth 100000 in
set_option maxHeartbeats 1000000 in
theorem ttold_yes (G : Tv) (w : World) (h : G.at_ = 0) (hg : G.got ≠ 0) :
    Calls Tryz.prog 48 #[tvV G (.slice At nt ct) (.slice Al nl cl)] w fun e w' => e = .returned (.tuple #[.slice Al nl cl, .int .i64 G.got]) ∧ Below w.heap.size w w' := by
  have g1 : (G.at_ != 0) = false := by simpa using h
  have g2 : (G.got == 0) = false := by simpa using hg
  clear h hg
  unfold tvV
  go_enter Tryz.func48, Tryz.ntmps48
  go_wp2_with (first
    | ((with_reducible refine box_walk rfl 37 (.tmp 0) rfl (tvC G (.slice At nt ct) (.slice Al nl cl)) rfl ?_); go_must (intro w1 r1 b1 z1; have B1 := Lib.hid b1; have c10 := r1.cell 10; have c16 := r1.cell 16; have c17 := r1.cell 17; simp only [tvC, List.getElem?_cons_zero, List.getElem?_cons_succ] at c10 c16 c17; clear r1 b1 z1)))
  have hS0 : w1.drew.cell? ⟨w.heap.size, 16, none⟩ = some (.slice Al nl cl) ∧ w1.drew.cell? ⟨w.heap.size, 17, none⟩ = some (.int .i64 G.got) := ⟨c16, c17⟩
  go_region_held3 (fun W => W.cell? ⟨w.heap.size, 16, none⟩ = some (.slice Al nl cl) ∧ W.cell? ⟨w.heap.size, 17, none⟩ = some (.int .i64 G.got))
    (first | exact hS0 | go_keep)
    (fail)
  all_goals go_wp2
  all_goals go_ret2
  all_goals exact ⟨rfl, B1.out.drew⟩
end
end

end Go.Proofs.YtiofipofbeodpaaGreatDoor
