/-
  Texts merged, with what one theorem needs of them.
  Conditions: those that each theorem states.
-/
import Derived.Test.YtiofipofbeodpaaGreatDoorRows
import Derived.Test.YtiofipofbeodpaaGreatDoorZ1
import Derived.Test.YtiofipofbeodpaaGreatDoorZ2
import Derived.Test.YtiofipofbeodpaaGreatDoorZ3
import Derived.Test.YtiofipofbeodpaaGreatDoorZ4
import Derived.Test.YtiofipofbeodpaaGreatDoorZ5
import Derived.Test.YtiofipofbeodpaaGreatDoorZ6
import Derived.Test.YtiofipofbeodpaaGreatDoorZ7
import Derived.Test.YtiofipofbeodpaaGreatDoorZ8
import Derived.Test.YtiofipofbeodpaaGreatDoorZ9
import Derived.Test.YtiofipofbeodpaaGreatDoorZ10
import Derived.Test.YtiofipofbeodpaaGreatDoorZ11
import Derived.Test.YtiofipofbeodpaaGreatDoorZ12
import Derived.Test.YtiofipofbeodpaaGreatDoorZ13
import Derived.Test.YtiofipofbeodpaaGreatDoorZ14
import Derived.Test.YtiofipofbeodpaaGreatDoorZ15
import Derived.Test.YtiofipofbeodpaaGreatDoorZ16
import Derived.Below
import Derived.BigQuiet
import Derived.Deep.AppendLies
import Derived.Deep.DeepMust
import Derived.Deep.Draws
import Derived.Deep.MidRow
import Derived.Deep.OwnRows
import Derived.Deep.QuietTactic
import Derived.Deep.RegionHeld3
import Derived.Deep.RegionLaw
import Derived.Defers
import Derived.Great.BuildSlice
import Derived.Handy
import Derived.IntWalk
import Derived.LaidLaws
import Derived.LaidMore
import Derived.Laws.BitsLemmas
import Derived.Laws.CopyOwn
import Derived.Laws.OwnMore
import Derived.Laws.Rows
import Derived.Lib.Hide
import Derived.Lib.SliceRun
import Derived.MakeChecks
import Derived.Maps.AppendAt
import Derived.OpenShut
import Derived.ProofKit
import Derived.Recover
import Derived.RegionTactic
import Derived.WalkKit
namespace Go.Proofs.YtiofipofbeodpaaGreatDoor

section
open Go.ChangeShapes Go.WideShapes Go.ChangeAt Go.RowKit
/-- A taker in numbers. -/
structure Tk where
  B : Int
  R : Nat
  peer : Int
  own : Int
  known : Int
  knows : Bool
  st : Nat
  ins : Bool
  tab : List (Int × Bool)
  linked : Bool
  head : Int
  used : Int
  rel : Bool
  slot : Int
  cnt : Int
  load : List Int
  res : Int
  gl : List Int
  gh : Int
/-- Its cells. -/
def tkC (T : Tk) (s : Nat) (vl vg : Value) : List Value :=
  [.int .i64 T.B, .int .i64 (T.R : Int), .int .i64 T.peer, .int .i64 T.own, .int .i64 T.known, .bool T.knows, .int .i64 (T.st : Int), .bool T.ins, .pointer (some ⟨s, 0, none⟩), .bool T.linked, .int .i64 T.head, .int .i64 T.used, .bool T.rel, .int .i64 T.slot, .int .i64 T.cnt, vl, .int .i64 T.res, vg, .int .i64 T.gh]
/-- A taker that is known whole: its struct is block k, its table block s; its two lists are slices of its own (they may share a block). -/
structure KAtW (w : World) (k : Nat) (T : Tk) (s : Nat) (vl vg : Value) : Prop where
  row : Row w k 88 (tkC T s vl vg)
  tab : GrAt w s T.tab
  load : w.ownsRow 0 3 1 vl T.load.length (ints T.load)
  got : w.ownsRow 0 3 1 vg T.gl.length (ints T.gl)
/-- The two lists share nothing. -/
structure KAt (w : World) (k : Nat) (T : Tk) (s : Nat) (vl vg : Value) : Prop extends KAtW w k T s vl vg where
  lg : ∀ x, vl.ownBlock = some x → vg.ownBlock ≠ some x
/-- Its blocks. -/
def own17 (k s : Nat) (vl vg : Value) (x : Nat) : Prop := x = k ∨ x = s ∨ vl.ownBlock = some x ∨ vg.ownBlock = some x
theorem own17_lt {w : World} {k s : Nat} {T : Tk} {vl vg : Value} (r : KAtW w k T s vl vg) {x : Nat} (h : own17 k s vl vg x) : x < w.heap.size := by
  rcases h with rfl | rfl | h | h
  · exact r.row.lt
  · exact r.tab.row.lt
  · exact (r.load.lt x h).2
  · exact (r.got.lt x h).2
theorem KAtW.only {S : Nat → Prop} {w w' : World} {k s : Nat} {T : Tk} {vl vg : Value} (r : KAtW w k T s vl vg) (ho : Only S w w') (hn : ∀ x, own17 k s vl vg x → ¬ S x) : KAtW w' k T s vl vg :=
  ⟨r.row.only ho (hn k (.inl rfl)), r.tab.only ho (hn s (.inr (.inl rfl))), own_quiet r.load (fun x hx => ho.block x (r.load.lt x hx).2 (hn x (.inr (.inr (.inl hx))))), own_quiet r.got (fun x hx => ho.block x (r.got.lt x hx).2 (hn x (.inr (.inr (.inr hx)))))⟩
theorem KAt.only {S : Nat → Prop} {w w' : World} {k s : Nat} {T : Tk} {vl vg : Value} (r : KAt w k T s vl vg) (ho : Only S w w') (hn : ∀ x, own17 k s vl vg x → ¬ S x) : KAt w' k T s vl vg :=
  ⟨r.toKAtW.only ho hn, r.lg⟩
theorem KAtW.below {w w' : World} {k s : Nat} {T : Tk} {vl vg : Value} (r : KAtW w k T s vl vg) (hb : Below w.heap.size w w') : KAtW w' k T s vl vg :=
  r.only (Only.of_below hb (fun _ => False)) (fun _ _ h => h)
theorem KAt.below {w w' : World} {k s : Nat} {T : Tk} {vl vg : Value} (r : KAt w k T s vl vg) (hb : Below w.heap.size w w') : KAt w' k T s vl vg :=
  r.only (Only.of_below hb (fun _ => False)) (fun _ _ h => h)
theorem KAtW.sk {w : World} {k s : Nat} {T : Tk} {vl vg : Value} (r : KAtW w k T s vl vg) : s ≠ k := r.tab.row.ne r.row (by decide)
theorem KAtW.lk {w : World} {k s : Nat} {T : Tk} {vl vg : Value} (r : KAtW w k T s vl vg) : vl.ownBlock ≠ some k := own_type r.load r.row (by decide)
theorem KAtW.gk {w : World} {k s : Nat} {T : Tk} {vl vg : Value} (r : KAtW w k T s vl vg) : vg.ownBlock ≠ some k := own_type r.got r.row (by decide)
theorem KAtW.ls {w : World} {k s : Nat} {T : Tk} {vl vg : Value} (r : KAtW w k T s vl vg) : vl.ownBlock ≠ some s := own_type r.load r.tab.row (by decide)
theorem KAtW.gs {w : World} {k s : Nat} {T : Tk} {vl vg : Value} (r : KAtW w k T s vl vg) : vg.ownBlock ≠ some s := own_type r.got r.tab.row (by decide)
/-- Cells of the struct alone have changed. -/
theorem KAtW.turn {w w' : World} {k s : Nat} {T T' : Tk} {vl vg : Value} (r : KAtW w k T s vl vg) (ho : Only (· = k) w w') (hr : Row w' k 88 (tkC T' s vl vg)) (ht : T'.tab = T.tab) (hl : T'.load = T.load) (hg : T'.gl = T.gl) : KAtW w' k T' s vl vg :=
  ⟨hr, by rw [ht]; exact r.tab.only ho r.sk, by rw [hl]; exact own_quiet r.load (fun x hx => ho.block x (r.load.lt x hx).2 (fun e => r.lk (by rw [hx, e]))), by rw [hg]; exact own_quiet r.got (fun x hx => ho.block x (r.got.lt x hx).2 (fun e => r.gk (by rw [hx, e])))⟩
theorem KAt.turn {w w' : World} {k s : Nat} {T T' : Tk} {vl vg : Value} (r : KAt w k T s vl vg) (ho : Only (· = k) w w') (hr : Row w' k 88 (tkC T' s vl vg)) (ht : T'.tab = T.tab) (hl : T'.load = T.load) (hg : T'.gl = T.gl) : KAt w' k T' s vl vg :=
  ⟨r.toKAtW.turn ho hr ht hl hg, r.lg⟩
/-- What a call leaves that writes the taker alone. -/
def KP17 (k s : Nat) (T : Tk) (vl vg : Value) (ans : Value) (w : World) (e : Ending) (w' : World) : Prop :=
  ∃ vl' vg', e = .returned ans ∧ KAt w' k T s vl' vg' ∧ Only (own17 k s vl vg) w w' ∧ ∀ x, own17 k s vl' vg' x → own17 k s vl vg x ∨ w.heap.size ≤ x
def KW17 (k s : Nat) (T : Tk) (vl vg : Value) (ans : Value) (w : World) (e : Ending) (w' : World) : Prop :=
  ∃ vl' vg', e = .returned ans ∧ KAtW w' k T s vl' vg' ∧ Only (own17 k s vl vg) w w' ∧ ∀ x, own17 k s vl' vg' x → own17 k s vl vg x ∨ w.heap.size ≤ x
theorem KP17.toW {k s : Nat} {T : Tk} {vl vg ans : Value} {w w' : World} {e : Ending} (h : KP17 k s T vl vg ans w e w') : KW17 k s T vl vg ans w e w' := by
  obtain ⟨vl', vg', h1, h2, h3⟩ := h
  exact ⟨vl', vg', h1, h2.toKAtW, h3⟩
theorem KP17.one {k s : Nat} {T T' : Tk} {vl vg ans : Value} {w w' : World} (r : KAt w k T s vl vg) (ho : Only (· = k) w w') (hr : Row w' k 88 (tkC T' s vl vg)) (ht : T'.tab = T.tab) (hl : T'.load = T.load) (hg : T'.gl = T.gl) : KP17 k s T' vl vg ans w (.returned ans) w' :=
  ⟨vl, vg, rfl, r.turn ho hr ht hl hg, ho.mono (fun _ _ h => .inl h), fun _ h => .inl h⟩
/-- What has changed behind two calls. -/
theorem ch17 {k s : Nat} {w w1 w2 : World} {vl vg vl1 vg1 vl2 vg2 : Value} (h1 : Only (own17 k s vl vg) w w1) (n1 : ∀ x, own17 k s vl1 vg1 x → own17 k s vl vg x ∨ w.heap.size ≤ x) (o2 : Only (own17 k s vl1 vg1) w1 w2) (n2 : ∀ x, own17 k s vl2 vg2 x → own17 k s vl1 vg1 x ∨ w1.heap.size ≤ x) :
    Only (own17 k s vl vg) w w2 ∧ ∀ x, own17 k s vl2 vg2 x → own17 k s vl vg x ∨ w.heap.size ≤ x := by
  have hs := h1.size
  refine ⟨h1.then14 o2 (fun x hx h => (n1 x h).resolve_right (by omega)), fun x h => ?_⟩
  rcases n2 x h with h | h
  · exact n1 x h
  · exact .inr (by omega)
theorem KP17.trans {k s : Nat} {w w1 w2 : World} {T2 : Tk} {vl vg vl1 vg1 ans : Value} {e : Ending} (h1 : Only (own17 k s vl vg) w w1) (n1 : ∀ x, own17 k s vl1 vg1 x → own17 k s vl vg x ∨ w.heap.size ≤ x) (h2 : KP17 k s T2 vl1 vg1 ans w1 e w2) : KP17 k s T2 vl vg ans w e w2 := by
  obtain ⟨vl', vg', he, r, o2, n2⟩ := h2
  obtain ⟨h3, h4⟩ := ch17 h1 n1 o2 n2
  exact ⟨vl', vg', he, r, h3, h4⟩
/-- Behind a call: its own part, and more cells of the struct. -/
theorem KP17.more {k s : Nat} {w w1 w2 : World} {T1 T2 : Tk} {vl vg vl1 vg1 ans : Value} (h1 : Only (own17 k s vl vg) w w1) (n1 : ∀ x, own17 k s vl1 vg1 x → own17 k s vl vg x ∨ w.heap.size ≤ x) (r : KAt w1 k T1 s vl1 vg1) (ho : Only (· = k) w1 w2) (hr : Row w2 k 88 (tkC T2 s vl1 vg1)) (ht : T2.tab = T1.tab) (hl : T2.load = T1.load) (hg : T2.gl = T1.gl) : KP17 k s T2 vl vg ans w (.returned ans) w2 :=
  KP17.trans h1 n1 (KP17.one r ho hr ht hl hg)
theorem only_put17 (w : World) (g k : Nat) (u : Value) : Only (· = g) w (w.setCell ⟨g, k, none⟩ u) := (Only.refl (fun b => b = g) w).setCell (p := ⟨g, k, none⟩) (.inl rfl) u
theorem Only.put17 {w w' : World} {g : Nat} (h : Only (· = g) w w') (k : Nat) (u : Value) : Only (· = g) w (w'.setCell ⟨g, k, none⟩ u) := h.setCell (p := ⟨g, k, none⟩) (.inl rfl) u
/-- The table alone has changed. -/
theorem KAtW.setTab {w w' : World} {k s : Nat} {T : Tk} {vl vg : Value} (r : KAtW w k T s vl vg) {l : List (Int × Bool)} (ho : Only (· = s) w w') (hr : GrAt w' s l) : KAtW w' k { T with tab := l } s vl vg :=
  ⟨r.row.only ho (fun e => r.sk e.symm), hr, own_quiet r.load (fun x hx => ho.block x (r.load.lt x hx).2 (fun e => r.ls (by rw [hx, e]))), own_quiet r.got (fun x hx => ho.block x (r.got.lt x hx).2 (fun e => r.gs (by rw [hx, e])))⟩
theorem KAt.setTab {w w' : World} {k s : Nat} {T : Tk} {vl vg : Value} (r : KAt w k T s vl vg) {l : List (Int × Bool)} (ho : Only (· = s) w w') (hr : GrAt w' s l) : KAt w' k { T with tab := l } s vl vg :=
  ⟨r.toKAtW.setTab ho hr, r.lg⟩
theorem own_rebase17 {w : World} {B B' : Nat} {e : TypeId} {size n : Nat} {v : Value} {xs : List Value} (h : w.ownsRow B' e size v n xs) (hB : B ≤ B') : w.ownsRow B e size v n xs :=
  ⟨h.1, h.2.imp id (fun ⟨g, cap, cur, h1, h2, h3⟩ => ⟨g, cap, cur, h1, Nat.le_trans hB h2, h3⟩)⟩
/-- The link epoch, the held slots, the address of a word. -/
def ep17 (T : Tk) : Int := addW T.own T.known
def hs17 (T : Tk) : List Int := onL15 T.tab T.tab.length
def ad17 (T : Tk) (f s i : Int) : Int := atV13 T.B T.R f s i
section
variable {k s : Nat} {T : Tk} {vl vg : Value}
set_option maxRecDepth 100000 in
set_option maxHeartbeats 400000 in
theorem busy17_any (w : World) (r : KAt w k T s vl vg) : Calls Tryz.prog 26 #[.pointer (some ⟨k, 0, none⟩)] w fun e w' => e = .returned (.bool ((T.st : Int) != 0)) ∧ w = w' := by
  have c6 := r.row.cell 6
  simp only [tkC, List.getElem?_cons_zero, List.getElem?_cons_succ] at c6
  obtain ⟨q, hs⟩ : ∃ q, T.st = q := ⟨_, rfl⟩
  rw [hs] at c6 ⊢
  clear r hs
  go_enter Tryz.func26, Tryz.ntmps26
  go_wp2
  go_ret
  exact ⟨by simp, rfl⟩
set_option maxRecDepth 100000 in
set_option maxHeartbeats 400000 in
theorem linked17_any (w : World) (r : KAt w k T s vl vg) : Calls Tryz.prog 27 #[.pointer (some ⟨k, 0, none⟩)] w fun e w' => e = .returned (.bool T.linked) ∧ w = w' := by
  have c9 := r.row.cell 9
  simp only [tkC, List.getElem?_cons_zero, List.getElem?_cons_succ] at c9
  clear r
  go_enter Tryz.func27, Tryz.ntmps27
  go_wp2
  go_ret
  exact ⟨rfl, rfl⟩
set_option maxRecDepth 100000 in
set_option maxHeartbeats 400000 in
theorem bound17_any (w : World) : Calls Tryz.prog 8 #[.pointer (some ⟨k, 0, none⟩)] w fun e w' => e = .returned (.int .i64 15) ∧ w = w' := by
  go_enter Tryz.func8, Tryz.ntmps8
  go_wp2
  go_ret
  exact ⟨rfl, rfl⟩
set_option maxRecDepth 100000 in
set_option maxHeartbeats 400000 in
theorem held17_any (w : World) (r : KAt w k T s vl vg) : Calls Tryz.prog 50 #[.pointer (some ⟨k, 0, none⟩)] w (OwnP15 (hs17 T) w) := by
  have c8 := r.row.cell 8
  simp only [tkC, List.getElem?_cons_zero, List.getElem?_cons_succ] at c8
  have KH := Lib.hid (held15_any s T.tab w r.tab)
  unfold ptr at KH
  unfold hs17
  clear r
  go_enter Tryz.func50, Tryz.ntmps50
  go_wp2_with fail
  refine KH.out.mono ?_
  rintro e w1 ⟨v1, rfl, o1, b1⟩
  have O1 := Lib.hid o1
  have B1 := Lib.hid b1
  obtain ⟨A1, c1, rfl⟩ := own15_is o1
  clear o1 b1
  go_wp2
  go_ret
  exact ⟨_, rfl, O1.out, B1.out⟩
set_option maxRecDepth 100000 in
set_option maxHeartbeats 400000 in
theorem slot17_any (h : Int) (w : World) (r : KAt w k T s vl vg) : Calls Tryz.prog 49 #[.pointer (some ⟨k, 0, none⟩), .int .i64 h] w fun e w' => e = .returned (.tuple #[.int .i64 (slotV15 T.tab h), .bool (slotB15 T.tab h)]) ∧ w = w' := by
  have c8 := r.row.cell 8
  simp only [tkC, List.getElem?_cons_zero, List.getElem?_cons_succ] at c8
  have KH := Lib.hid (slot15_any s T.tab h w r.tab)
  unfold ptr at KH
  clear r
  go_enter Tryz.func49, Tryz.ntmps49
  go_wp2_with fail
  refine KH.out.mono ?_
  rintro e w' ⟨rfl, rfl⟩
  go_wp2
  go_ret2
  exact ⟨rfl, rfl⟩
/-- What Got tells. -/
def gotL17 (T : Tk) : List Int := if T.gh = 0 then [] else T.gl
def GotP17 (T : Tk) (w : World) (e : Ending) (w' : World) : Prop := ∃ v, e = .returned (.tuple #[v, .int .i64 T.gh]) ∧ w'.ownsRow w.heap.size 3 1 v (gotL17 T).length (ints (gotL17 T)) ∧ Below w.heap.size w w'
set_option maxRecDepth 100000 in
set_option maxHeartbeats 1000000 in
theorem got17_any (w : World) (r : KAt w k T s vl vg) (hl : T.gl.length ≤ 65536) : Calls Tryz.prog 47 #[.pointer (some ⟨k, 0, none⟩)] w (GotP17 T w) := by
  have c17 := r.row.cell 17
  have c18 := r.row.cell 18
  simp only [tkC, List.getElem?_cons_zero, List.getElem?_cons_succ] at c17 c18
  by_cases h0 : T.gh = 0
  · have e0 : (T.gh == 0) = true := by simpa using h0
    have HG : Hid (gotL17 T = []) := Lib.hid (if_pos h0)
    have HZ := Lib.hid h0
    clear r h0 hl c17
    go_enter Tryz.func47, Tryz.ntmps47
    go_wp2
    go_ret2
    unfold GotP17
    rw [HG.out, HZ.out]
    exact ⟨_, rfl, World.ownsRow_nil _ _ _ _, Below.refl _ _⟩
  · have e0 : (T.gh == 0) = false := by simpa using h0
    have HG : Hid (gotL17 T = T.gl) := Lib.hid (if_neg h0)
    have L := Lib.hid (Lies.of_own r.got)
    have C := Lib.hid (CapOk.of_own r.got)
    have KLT := r.row.lt
    obtain ⟨A, c, rfl⟩ := own_open14 r.got
    have KC := Lib.hid (fun W (hb : Below w.heap.size w W) => (clone14_any _ T.gl _ W (L.out.below hb) C.out hl).mono (fun e w' (h : ∃ v', e = .returned v' ∧ w'.ownsRow W.heap.size 3 1 v' T.gl.length (ints T.gl) ∧ Below W.heap.size W w') => show ∃ v', e = .returned v' ∧ w'.ownsRow w.heap.size 3 1 v' T.gl.length (ints T.gl) ∧ Below w.heap.size w w' from by
      obtain ⟨v', h1, h2, h3⟩ := h
      exact ⟨v', h1, own_rebase17 h2 hb.size, below_on hb h3⟩))
    clear r h0 hl
    have hS0 : w.drew.cell? ⟨k, 17, none⟩ = some (.slice A T.gl.length c) ∧ w.drew.cell? ⟨k, 18, none⟩ = some (.int .i64 T.gh) := ⟨c17, c18⟩
    have hbd : Below w.heap.size w w.drew := (Below.refl _ _).drew
    go_enter Tryz.func47, Tryz.ntmps47
    go_wp2
    go_region_held3 (fun W => W.cell? ⟨k, 17, none⟩ = some (.slice A T.gl.length c) ∧ W.cell? ⟨k, 18, none⟩ = some (.int .i64 T.gh))
      (first | exact hS0 | exact hS2 | go_keep)
      (first
        | (go_at_call 46; refine (KC.out _ (by first | assumption)).mono ?_; rintro e w2 ⟨v2, rfl, o2, b2⟩; have hS2 : w2.cell? ⟨k, 17, none⟩ = some (.slice A T.gl.length c) ∧ w2.cell? ⟨k, 18, none⟩ = some (.int .i64 T.gh) := ⟨(b2.cell (p := ⟨k, 17, none⟩) KLT).trans c17, (b2.cell (p := ⟨k, 18, none⟩) KLT).trans c18⟩))
    all_goals
      have O2 := Lib.hid o2
      have B2 := Lib.hid b2
      obtain ⟨A2, c2, rfl⟩ := own_open14 o2
      clear o2 b2
      go_wp2
      go_ret2
      unfold GotP17
      rw [HG.out]
      first
        | exact ⟨_, rfl, O2.out, B2.out⟩
        | exact ⟨_, rfl, O2.out, B2.out.drew⟩
set_option maxRecDepth 100000 in
set_option maxHeartbeats 400000 in
theorem epoch17_any (w : World) (r : KAt w k T s vl vg) : Calls Tryz.prog 72 #[.pointer (some ⟨k, 0, none⟩)] w fun e w' => e = .returned (.int .i64 (ep17 T)) ∧ Below w.heap.size w w' := by
  have c3 := r.row.cell 3
  have c4 := r.row.cell 4
  simp only [tkC, List.getElem?_cons_zero, List.getElem?_cons_succ] at c3 c4
  unfold ep17
  clear r
  have AD := Lib.hid (fun (W : World) => add_any T.own T.known W)
  go_enter Tryz.func72, Tryz.ntmps72
  go_wp2
  go_region_held3 (fun W => W.cell? ⟨k, 3, none⟩ = some (.int .i64 T.own) ∧ W.cell? ⟨k, 4, none⟩ = some (.int .i64 T.known) ∧ Below w.heap.size w W)
    (first | exact ⟨c3, c4, (Below.refl _ _).drew⟩ | exact ⟨c3, c4, Below.refl _ _⟩ | go_keep)
    (first
      | (go_at_call 79; refine (AD.out _).mono ?_; rintro e w' ⟨rfl, rfl⟩))
  go_wp2
  go_ret
  exact ⟨rfl, (Below.refl _ _).drew⟩
set_option maxRecDepth 100000 in
set_option maxHeartbeats 400000 in
theorem at17_any (f c i : Int) (w : World) (r : KAt w k T s vl vg) (hB : 0 ≤ T.B ∧ T.B ≤ 65535) (hR : T.R ≤ 64) (hT : TabAt w) : Calls Tryz.prog 78 #[.pointer (some ⟨k, 0, none⟩), .int .i64 f, .int .i64 c, .int .i64 i] w fun e w' => e = .returned (.int .i64 (ad17 T f c i)) ∧ Below w.heap.size w w' := by
  have c0 := r.row.cell 0
  have c1 := r.row.cell 1
  simp only [tkC, List.getElem?_cons_zero, List.getElem?_cons_succ] at c0 c1
  unfold ad17
  have AT := Lib.hid (fun (W : World) (h : TabAt W) => at13_any T.B (T.R : Int) f c i (by omega) (by omega) W h)
  unfold plV at AT
  have HT := Lib.hid hT
  clear r hB hR hT
  go_enter Tryz.func78, Tryz.ntmps78
  go_wp2_with (go_at_call 86; refine (AT.out _ HT.out).mono ?_; rintro e w1 ⟨rfl, b1⟩)
  go_ret
  exact ⟨rfl, b1⟩
/-- The taker without a call. -/
def idle17 (T : Tk) : Tk := { T with st := 0, rel := false, slot := 0, cnt := 0, load := [], res := 0 }
set_option maxRecDepth 100000 in
set_option maxHeartbeats 1000000 in
theorem end17_any (n : Int) (w : World) (r : KAtW w k T s vl vg) : Calls Tryz.prog 71 #[.pointer (some ⟨k, 0, none⟩), .int .i64 n] w (KP17 k s (idle17 T) vl vg (.tuple #[.bool true, .int .i64 n]) w) := by
  have R := Lib.hid r
  have c6 := r.row.cell 6
  have c12 := r.row.cell 12
  have c13 := r.row.cell 13
  have c14 := r.row.cell 14
  have c15 := r.row.cell 15
  have c16 := r.row.cell 16
  have f6 := r.row.soft 6
  have f12 := r.row.soft 12
  have f13 := r.row.soft 13
  have f14 := r.row.soft 14
  have f15 := r.row.soft 15
  have f16 := r.row.soft 16
  simp only [tkC, List.getElem?_cons_zero, List.getElem?_cons_succ] at c6 c12 c13 c14 c15 c16
  clear r
  go_enter Tryz.func71, Tryz.ntmps71
  go_wp2
  go_ret2
  obtain ⟨w6, hw6⟩ : ∃ w6, w6 = (((((w.setCell ⟨k, 6, none⟩ (.int .i64 0)).setCell ⟨k, 12, none⟩ (.bool false)).setCell ⟨k, 13, none⟩ (.int .i64 0)).setCell ⟨k, 14, none⟩ (.int .i64 0)).setCell ⟨k, 15, none⟩ (.slice none 0 0)).setCell ⟨k, 16, none⟩ (.int .i64 0) := ⟨_, rfl⟩
  have ho : Only (· = k) w w6 := by
    rw [hw6]
    exact (((((only_put17 w k 6 _).put17 12 _).put17 13 _).put17 14 _).put17 15 _).put17 16 _
  have hr : Row w6 k 88 (tkC (idle17 T) s (.slice none 0 0) vg) := by
    rw [hw6]
    exact (((((R.out.row.put 6 (.int .i64 0)).put 12 (.bool false)).put 13 (.int .i64 0)).put 14 (.int .i64 0)).put 15 (.slice none 0 0)).put 16 (.int .i64 0)
  rw [← hw6]
  refine ⟨.slice none 0 0, vg, rfl, ⟨⟨hr, R.out.tab.only ho R.out.sk, World.ownsRow_nil _ _ _ _, own_quiet R.out.got (fun x hx => ho.block x (R.out.got.lt x hx).2 (fun e => R.out.gk (by rw [hx, e])))⟩, (fun _ h => by cases h)⟩, ho.mono (fun _ _ h => .inl h), fun x h => ?_⟩
  rcases h with h | h | h | h
  · exact .inl (.inl h)
  · exact .inl (.inr (.inl h))
  · cases h
  · exact .inl (.inr (.inr (.inr h)))
/-- A call begins. -/
def begin17 (T : Tk) (rel : Bool) (slot : Int) : Tk := { T with st := 1, rel := rel, slot := slot, cnt := 0, load := [], res := 0, gl := [], gh := 0 }
set_option maxRecDepth 100000 in
set_option maxHeartbeats 4000000 in
theorem begin17_any (rel : Bool) (slot : Int) (w : World) (r : KAt w k T s vl vg) : Calls Tryz.prog 32 #[.pointer (some ⟨k, 0, none⟩), .agg #[.bool rel, .int .i64 slot, .int .i64 0, .slice none 0 0, .int .i64 0]] w (KP17 k s (begin17 T rel slot) vl vg (.tuple #[]) w) := by
  have R := Lib.hid r
  have c6 := r.row.cell 6
  have c12 := r.row.cell 12
  have c13 := r.row.cell 13
  have c14 := r.row.cell 14
  have c15 := r.row.cell 15
  have c16 := r.row.cell 16
  have c17 := r.row.cell 17
  have c18 := r.row.cell 18
  have f6 := r.row.soft 6
  have f12 := r.row.soft 12
  have f13 := r.row.soft 13
  have f14 := r.row.soft 14
  have f15 := r.row.soft 15
  have f16 := r.row.soft 16
  have f17 := r.row.soft 17
  have f18 := r.row.soft 18
  simp only [tkC, List.getElem?_cons_zero, List.getElem?_cons_succ] at c6 c12 c13 c14 c15 c16 c17 c18
  have hk := r.row.lt
  have hkn : k ≠ w.heap.size := by omega
  clear r
  go_enter Tryz.func32, Tryz.ntmps32
  go_wp2
  go_region_law (fail)
  all_goals
    go_wp2
    go_end0
    obtain ⟨w6, hw6⟩ : ∃ w6, w6 = (((((((w.setCell ⟨k, 6, none⟩ (.int .i64 1)).setCell ⟨k, 12, none⟩ (.bool rel)).setCell ⟨k, 13, none⟩ (.int .i64 slot)).setCell ⟨k, 14, none⟩ (.int .i64 0)).setCell ⟨k, 15, none⟩ (.slice none 0 0)).setCell ⟨k, 16, none⟩ (.int .i64 0)).setCell ⟨k, 17, none⟩ (.slice none 0 0)).setCell ⟨k, 18, none⟩ (.int .i64 0) := ⟨_, rfl⟩
    have ho : Only (· = k) w w6 := by
      rw [hw6]
      exact (((((((only_put17 w k 6 _).put17 12 _).put17 13 _).put17 14 _).put17 15 _).put17 16 _).put17 17 _).put17 18 _
    have hr : Row w6 k 88 (tkC (begin17 T rel slot) s (.slice none 0 0) (.slice none 0 0)) := by
      rw [hw6]
      exact (((((((R.out.row.put 6 (.int .i64 1)).put 12 (.bool rel)).put 13 (.int .i64 slot)).put 14 (.int .i64 0)).put 15 (.slice none 0 0)).put 16 (.int .i64 0)).put 17 (.slice none 0 0)).put 18 (.int .i64 0)
    rw [← hw6]
    clear hw6
    have hb := (below_al w6 (.cells #[.bool rel, .int .i64 slot, .int .i64 0, .slice none 0 0, .int .i64 0] 74)).drew
    refine ⟨.slice none 0 0, .slice none 0 0, rfl, KAt.below ⟨⟨hr, R.out.tab.only ho R.out.sk, World.ownsRow_nil _ _ _ _, World.ownsRow_nil _ _ _ _⟩, (fun _ h => by cases h)⟩ hb, (ho.mono (fun _ _ h => .inl h)).then_below hb, fun x h => ?_⟩
    rcases h with h | h | h | h
    · exact .inl (.inl h)
    · exact .inl (.inr (.inl h))
    · cases h
    · cases h
end
end

end Go.Proofs.YtiofipofbeodpaaGreatDoor
