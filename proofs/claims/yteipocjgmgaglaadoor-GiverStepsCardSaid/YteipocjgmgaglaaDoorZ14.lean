/-
  Texts merged, with what one theorem needs of them.
  Conditions: those that each theorem states.
-/
import Derived.Test.YteipocjgmgaglaaDoorRows
import Derived.Test.YteipocjgmgaglaaDoorZ1
import Derived.Test.YteipocjgmgaglaaDoorZ2
import Derived.Test.YteipocjgmgaglaaDoorZ3
import Derived.Test.YteipocjgmgaglaaDoorZ4
import Derived.Test.YteipocjgmgaglaaDoorZ5
import Derived.Test.YteipocjgmgaglaaDoorZ6
import Derived.Test.YteipocjgmgaglaaDoorZ7
import Derived.Test.YteipocjgmgaglaaDoorZ8
import Derived.Test.YteipocjgmgaglaaDoorZ9
import Derived.Test.YteipocjgmgaglaaDoorZ10
import Derived.Test.YteipocjgmgaglaaDoorZ11
import Derived.Test.YteipocjgmgaglaaDoorZ12
import Derived.Test.YteipocjgmgaglaaDoorZ13
import Derived.Below
import Derived.BigQuiet
import Derived.Deep.AppendLies
import Derived.Deep.DeepMust
import Derived.Deep.Draws
import Derived.Deep.MidRow
import Derived.Deep.OwnRows
import Derived.Deep.QuietTactic
import Derived.Deep.RegionHeld3
import Derived.Deep.RegionLaw
import Derived.Defers
import Derived.Great.BuildSlice
import Derived.Handy
import Derived.IntWalk
import Derived.LaidLaws
import Derived.LaidMore
import Derived.Laws.BitsLemmas
import Derived.Laws.CopyOwn
import Derived.Laws.OwnMore
import Derived.Laws.Rows
import Derived.Lib.Hide
import Derived.Lib.SliceRun
import Derived.MakeChecks
import Derived.Maps.AppendAt
import Derived.OpenShut
import Derived.ProofKit
import Derived.Recover
import Derived.RegionTactic
import Derived.WalkKit
namespace Go.Proofs.YteipocjgmgaglaaDoor

section
open Go.ChangeShapes Go.WideShapes Go.ChangeAt Go.RowKit
/-- A giver in numbers. -/
structure Gv where
  B : Int
  R : Nat
  peer : Int
  own : Int
  known : Int
  knows : Bool
  st : Nat
  ins : Bool
  linked : Bool
  free : List Int
  out : List Int
  next : Int
  tail : Int
  load : List Int
  sto : Nat
  ret : Int
  res : Int
/-- Its cells. -/
def gvC (G : Gv) (vf vo vl : Value) : List Value :=
  [.int .i64 G.B, .int .i64 (G.R : Int), .int .i64 G.peer, .int .i64 G.own, .int .i64 G.known, .bool G.knows, .int .i64 (G.st : Int), .bool G.ins, .bool G.linked, vf, vo, .int .i64 G.next, .int .i64 G.tail, vl, .int .i64 (G.sto : Int), .int .i64 G.ret, .int .i64 G.res]
/-- A giver that is known whole: its struct is block g; its three lists are slices of its own. -/
structure GAt (w : World) (g : Nat) (G : Gv) (vf vo vl : Value) : Prop where
  row : Row w g 72 (gvC G vf vo vl)
  free : w.ownsRow 0 3 1 vf G.free.length (ints G.free)
  out : w.ownsRow 0 3 1 vo G.out.length (ints G.out)
  load : w.ownsRow 0 3 1 vl G.load.length (ints G.load)
  fo : ∀ x, vf.ownBlock = some x → vo.ownBlock ≠ some x
  fl : ∀ x, vf.ownBlock = some x → vl.ownBlock ≠ some x
  ol : ∀ x, vo.ownBlock = some x → vl.ownBlock ≠ some x
/-- Its blocks. -/
def own16 (g : Nat) (vf vo vl : Value) (x : Nat) : Prop := x = g ∨ vf.ownBlock = some x ∨ vo.ownBlock = some x ∨ vl.ownBlock = some x
theorem own16_lt {w : World} {g : Nat} {G : Gv} {vf vo vl : Value} (r : GAt w g G vf vo vl) {x : Nat} (h : own16 g vf vo vl x) : x < w.heap.size := by
  rcases h with rfl | h | h | h
  · exact r.row.lt
  · exact (r.free.lt x h).2
  · exact (r.out.lt x h).2
  · exact (r.load.lt x h).2
theorem GAt.only {S : Nat → Prop} {w w' : World} {g : Nat} {G : Gv} {vf vo vl : Value} (r : GAt w g G vf vo vl) (ho : Only S w w') (hn : ∀ x, own16 g vf vo vl x → ¬ S x) : GAt w' g G vf vo vl :=
  ⟨r.row.only ho (hn g (.inl rfl)), own_quiet r.free (fun x hx => ho.block x (r.free.lt x hx).2 (hn x (.inr (.inl hx)))), own_quiet r.out (fun x hx => ho.block x (r.out.lt x hx).2 (hn x (.inr (.inr (.inl hx))))), own_quiet r.load (fun x hx => ho.block x (r.load.lt x hx).2 (hn x (.inr (.inr (.inr hx))))), r.fo, r.fl, r.ol⟩
theorem GAt.below {w w' : World} {g : Nat} {G : Gv} {vf vo vl : Value} (r : GAt w g G vf vo vl) (hb : Below w.heap.size w w') : GAt w' g G vf vo vl :=
  r.only (Only.of_below hb (fun _ => False)) (fun _ _ h => h)
theorem GAt.fg {w : World} {g : Nat} {G : Gv} {vf vo vl : Value} (r : GAt w g G vf vo vl) : vf.ownBlock ≠ some g := own_type r.free r.row (by decide)
theorem GAt.og {w : World} {g : Nat} {G : Gv} {vf vo vl : Value} (r : GAt w g G vf vo vl) : vo.ownBlock ≠ some g := own_type r.out r.row (by decide)
theorem GAt.lg {w : World} {g : Nat} {G : Gv} {vf vo vl : Value} (r : GAt w g G vf vo vl) : vl.ownBlock ≠ some g := own_type r.load r.row (by decide)
/-- Cells of the struct alone have changed. -/
theorem GAt.turn {w w' : World} {g : Nat} {G G' : Gv} {vf vo vl : Value} (r : GAt w g G vf vo vl) (ho : Only (· = g) w w') (hr : Row w' g 72 (gvC G' vf vo vl)) (hf : G'.free = G.free) (hout : G'.out = G.out) (hl : G'.load = G.load) : GAt w' g G' vf vo vl :=
  ⟨hr, by rw [hf]; exact own_quiet r.free (fun x hx => ho.block x (r.free.lt x hx).2 (fun e => r.fg (by rw [hx, e]))), by rw [hout]; exact own_quiet r.out (fun x hx => ho.block x (r.out.lt x hx).2 (fun e => r.og (by rw [hx, e]))), by rw [hl]; exact own_quiet r.load (fun x hx => ho.block x (r.load.lt x hx).2 (fun e => r.lg (by rw [hx, e]))), r.fo, r.fl, r.ol⟩
/-- What a call leaves that writes the giver alone. -/
def GP16 (g : Nat) (G : Gv) (vf vo vl : Value) (ans : Value) (w : World) (e : Ending) (w' : World) : Prop :=
  ∃ vf' vo' vl', e = .returned ans ∧ GAt w' g G vf' vo' vl' ∧ Only (own16 g vf vo vl) w w' ∧ ∀ x, own16 g vf' vo' vl' x → own16 g vf vo vl x ∨ w.heap.size ≤ x
theorem GP16.one {g : Nat} {G G' : Gv} {vf vo vl ans : Value} {w w' : World} (r : GAt w g G vf vo vl) (ho : Only (· = g) w w') (hr : Row w' g 72 (gvC G' vf vo vl)) (hf : G'.free = G.free) (hout : G'.out = G.out) (hl : G'.load = G.load) : GP16 g G' vf vo vl ans w (.returned ans) w' :=
  ⟨vf, vo, vl, rfl, r.turn ho hr hf hout hl, ho.mono (fun _ _ h => .inl h), fun _ h => .inl h⟩
theorem only_put16 (w : World) (g k : Nat) (u : Value) : Only (· = g) w (w.setCell ⟨g, k, none⟩ u) := (Only.refl (fun b => b = g) w).setCell (p := ⟨g, k, none⟩) (.inl rfl) u
theorem Only.put16 {w w' : World} {g : Nat} (h : Only (· = g) w w') (k : Nat) (u : Value) : Only (· = g) w (w'.setCell ⟨g, k, none⟩ u) := h.setCell (p := ⟨g, k, none⟩) (.inl rfl) u
/-- The link epoch, the slot that was taken, the address of a word. -/
def ep16 (G : Gv) : Int := addW G.own G.known
def tk16 (G : Gv) : Int := G.out.getLastD 0
def ad16 (G : Gv) (f s i : Int) : Int := atV13 G.B G.R f s i
section
variable {g : Nat} {G : Gv} {vf vo vl : Value}
set_option maxRecDepth 100000 in
set_option maxHeartbeats 400000 in
theorem busy16_any (w : World) (r : GAt w g G vf vo vl) : Calls Tryd.prog 22 #[.pointer (some ⟨g, 0, none⟩)] w fun e w' => e = .returned (.bool ((G.st : Int) != 0)) ∧ w = w' := by
  have c6 := r.row.cell 6
  simp only [gvC, List.getElem?_cons_zero, List.getElem?_cons_succ] at c6
  obtain ⟨s, hs⟩ : ∃ s, G.st = s := ⟨_, rfl⟩
  rw [hs] at c6 ⊢
  clear r hs
  go_enter Tryd.func22, Tryd.ntmps22
  go_wp2
  go_ret
  exact ⟨by simp, rfl⟩
set_option maxRecDepth 100000 in
set_option maxHeartbeats 400000 in
theorem linked16_any (w : World) (r : GAt w g G vf vo vl) : Calls Tryd.prog 23 #[.pointer (some ⟨g, 0, none⟩)] w fun e w' => e = .returned (.bool G.linked) ∧ w = w' := by
  have c8 := r.row.cell 8
  simp only [gvC, List.getElem?_cons_zero, List.getElem?_cons_succ] at c8
  clear r
  go_enter Tryd.func23, Tryd.ntmps23
  go_wp2
  go_ret
  exact ⟨rfl, rfl⟩
set_option maxRecDepth 100000 in
set_option maxHeartbeats 400000 in
theorem bound16_any (w : World) (r : GAt w g G vf vo vl) (hR : G.R ≤ 64) : Calls Tryd.prog 8 #[.pointer (some ⟨g, 0, none⟩)] w fun e w' => e = .returned (.int .i64 ((G.R : Int) + 18)) ∧ w = w' := by
  have c1 := r.row.cell 1
  simp only [gvC, List.getElem?_cons_zero, List.getElem?_cons_succ] at c1
  obtain ⟨s, hs⟩ : ∃ s, G.R = s := ⟨_, rfl⟩
  rw [hs] at c1 hR ⊢
  clear r hs
  go_enter Tryd.func8, Tryd.ntmps8
  go_wp2
  go_ret
  exact ⟨by simp, rfl⟩
set_option maxRecDepth 100000 in
set_option maxHeartbeats 400000 in
theorem free16_any (w : World) (r : GAt w g G vf vo vl) (hl : G.free.length ≤ 65536) : Calls Tryd.prog 24 #[.pointer (some ⟨g, 0, none⟩)] w fun e w' => ∃ v', e = .returned v' ∧ w'.ownsRow w.heap.size 3 1 v' G.free.length (ints G.free) ∧ Below w.heap.size w w' := by
  have c9 := r.row.cell 9
  simp only [gvC, List.getElem?_cons_zero, List.getElem?_cons_succ] at c9
  have L := Lib.hid (Lies.of_own r.free)
  have C := Lib.hid (CapOk.of_own r.free)
  obtain ⟨A, c, rfl⟩ := own_open14 r.free
  clear r
  go_enter Tryd.func24, Tryd.ntmps24
  go_wp2_with (go_at_call 33; refine (clone14_any _ G.free _ _ L.out C.out hl).mono ?_; rintro e w1 ⟨v1, rfl, o1, b1⟩)
  go_ret
  exact ⟨_, rfl, o1, b1⟩
set_option maxRecDepth 100000 in
set_option maxHeartbeats 400000 in
theorem out16_any (w : World) (r : GAt w g G vf vo vl) (hl : G.out.length ≤ 65536) : Calls Tryd.prog 25 #[.pointer (some ⟨g, 0, none⟩)] w fun e w' => ∃ v', e = .returned v' ∧ w'.ownsRow w.heap.size 3 1 v' G.out.length (ints G.out) ∧ Below w.heap.size w w' := by
  have c10 := r.row.cell 10
  simp only [gvC, List.getElem?_cons_zero, List.getElem?_cons_succ] at c10
  have L := Lib.hid (Lies.of_own r.out)
  have C := Lib.hid (CapOk.of_own r.out)
  obtain ⟨A, c, rfl⟩ := own_open14 r.out
  clear r
  go_enter Tryd.func25, Tryd.ntmps25
  go_wp2_with (go_at_call 33; refine (clone14_any _ G.out _ _ L.out C.out hl).mono ?_; rintro e w1 ⟨v1, rfl, o1, b1⟩)
  go_ret
  exact ⟨_, rfl, o1, b1⟩
set_option maxRecDepth 100000 in
set_option maxHeartbeats 400000 in
theorem epoch16_any (w : World) (r : GAt w g G vf vo vl) : Calls Tryd.prog 57 #[.pointer (some ⟨g, 0, none⟩)] w fun e w' => e = .returned (.int .i64 (ep16 G)) ∧ Below w.heap.size w w' := by
  have c3 := r.row.cell 3
  have c4 := r.row.cell 4
  simp only [gvC, List.getElem?_cons_zero, List.getElem?_cons_succ] at c3 c4
  unfold ep16
  clear r
  have AD := Lib.hid (fun (W : World) => add_any G.own G.known W)
  go_enter Tryd.func57, Tryd.ntmps57
  go_wp2
  go_region_held3 (fun W => W.cell? ⟨g, 3, none⟩ = some (.int .i64 G.own) ∧ W.cell? ⟨g, 4, none⟩ = some (.int .i64 G.known) ∧ Below w.heap.size w W)
    (first | exact ⟨c3, c4, (Below.refl _ _).drew⟩ | exact ⟨c3, c4, Below.refl _ _⟩ | go_keep)
    (first
      | (go_at_call 65; refine (AD.out _).mono ?_; rintro e w' ⟨rfl, rfl⟩))
  go_wp2
  go_ret
  exact ⟨rfl, (Below.refl _ _).drew⟩
set_option maxRecDepth 100000 in
set_option maxHeartbeats 400000 in
theorem taken16_any (w : World) (r : GAt w g G vf vo vl) (ho : G.out ≠ []) (hl : G.out.length ≤ 65536) : Calls Tryd.prog 64 #[.pointer (some ⟨g, 0, none⟩)] w fun e w' => e = .returned (.int .i64 (tk16 G)) ∧ Below w.heap.size w w' := by
  have c10 := r.row.cell 10
  simp only [gvC, List.getElem?_cons_zero, List.getElem?_cons_succ] at c10
  unfold tk16
  have L := Lies.of_own r.out
  obtain ⟨A, c, rfl⟩ := own_open14 r.out
  obtain ⟨m, hm⟩ : ∃ m, G.out.length = m + 1 := ⟨G.out.length - 1, by have := List.length_pos_iff.2 ho; omega⟩
  have hx : G.out[m]? = some (G.out.getLastD 0) := by
    rw [List.getLastD_eq_getLast?, List.getLast?_eq_getElem?, hm]
    simp [List.getElem?_eq_getElem (show m < G.out.length by omega)]
  obtain ⟨b, o, rfl, _, hb, hc⟩ := lies_at L hx
  generalize G.out.getLastD 0 = x at *
  rw [hm] at c10 hl
  clear L hx ho r
  have e1 : ((m + 1 : Nat) : Int) - 1 = (m : Int) := by omega
  have e2 : (0 : Int) ≤ (m : Int) := by omega
  have e3 : (m : Int) < ((m + 1 : Nat) : Int) := by omega
  go_enter Tryd.func64, Tryd.ntmps64
  go_wp2
  go_quiet (fail)
  go_wp2
  go_ret
  exact ⟨rfl, below_q _ _⟩
set_option maxRecDepth 100000 in
set_option maxHeartbeats 400000 in
theorem at16_any (f s i : Int) (w : World) (r : GAt w g G vf vo vl) (hB : 0 ≤ G.B ∧ G.B ≤ 65535) (hR : G.R ≤ 64) (hT : TabAt w) : Calls Tryd.prog 63 #[.pointer (some ⟨g, 0, none⟩), .int .i64 f, .int .i64 s, .int .i64 i] w fun e w' => e = .returned (.int .i64 (ad16 G f s i)) ∧ Below w.heap.size w w' := by
  have c0 := r.row.cell 0
  have c1 := r.row.cell 1
  simp only [gvC, List.getElem?_cons_zero, List.getElem?_cons_succ] at c0 c1
  unfold ad16
  have AT := Lib.hid (fun (W : World) (h : TabAt W) => at13_any G.B (G.R : Int) f s i (by omega) (by omega) W h)
  unfold plV at AT
  have HT := Lib.hid hT
  clear r hB hR hT
  go_enter Tryd.func63, Tryd.ntmps63
  go_wp2_with (go_at_call 71; refine (AT.out _ HT.out).mono ?_; rintro e w1 ⟨rfl, b1⟩)
  go_ret
  exact ⟨rfl, b1⟩
/-- The giver without a call. -/
def idle16 (G : Gv) : Gv := { G with st := 0, load := [], sto := 0, ret := 0, res := 0 }
set_option maxRecDepth 100000 in
set_option maxHeartbeats 1000000 in
theorem end16_any (n : Int) (w : World) (r : GAt w g G vf vo vl) : Calls Tryd.prog 56 #[.pointer (some ⟨g, 0, none⟩), .int .i64 n] w (GP16 g (idle16 G) vf vo vl (.tuple #[.bool true, .int .i64 n]) w) := by
  have R := Lib.hid r
  have c6 := r.row.cell 6
  have c13 := r.row.cell 13
  have c14 := r.row.cell 14
  have c15 := r.row.cell 15
  have c16 := r.row.cell 16
  have f6 := r.row.soft 6
  have f13 := r.row.soft 13
  have f14 := r.row.soft 14
  have f15 := r.row.soft 15
  have f16 := r.row.soft 16
  simp only [gvC, List.getElem?_cons_zero, List.getElem?_cons_succ] at c6 c13 c14 c15 c16
  clear r
  go_enter Tryd.func56, Tryd.ntmps56
  go_wp2
  go_ret2
  have ho : Only (· = g) w (((((w.setCell ⟨g, 6, none⟩ (.int .i64 0)).setCell ⟨g, 13, none⟩ (.slice none 0 0)).setCell ⟨g, 14, none⟩ (.int .i64 0)).setCell ⟨g, 15, none⟩ (.int .i64 0)).setCell ⟨g, 16, none⟩ (.int .i64 0)) :=
    ((((only_put16 w g 6 _).put16 13 _).put16 14 _).put16 15 _).put16 16 _
  have hr := ((((R.out.row.put 6 (.int .i64 0)).put 13 (.slice none 0 0)).put 14 (.int .i64 0)).put 15 (.int .i64 0)).put 16 (.int .i64 0)
  refine ⟨vf, vo, .slice none 0 0, rfl, ⟨hr, ?_, ?_, World.ownsRow_nil _ _ _ _, R.out.fo, (fun _ _ h => by cases h), (fun _ _ h => by cases h)⟩, ho.mono (fun _ _ h => .inl h), fun x h => ?_⟩
  · exact own_quiet R.out.free (fun x hx => ho.block x (R.out.free.lt x hx).2 (fun e => R.out.fg (by rw [hx, e])))
  · exact own_quiet R.out.out (fun x hx => ho.block x (R.out.out.lt x hx).2 (fun e => R.out.og (by rw [hx, e])))
  · rcases h with h | h | h | h
    · exact .inl (.inl h)
    · exact .inl (.inr (.inl h))
    · exact .inl (.inr (.inr (.inl h)))
    · cases h
end
end

end Go.Proofs.YteipocjgmgaglaaDoor
