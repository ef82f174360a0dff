/-
  Texts merged, with what one theorem needs of them.
  Conditions: those that each theorem states.
-/
import Derived.Test.YteipocjgmgaglaaDoorRows
import Derived.Test.YteipocjgmgaglaaDoorZ1
import Derived.Test.YteipocjgmgaglaaDoorZ2
import Derived.Test.YteipocjgmgaglaaDoorZ7
import Derived.Test.YteipocjgmgaglaaDoorZ24
import Derived.Test.YteipocjgmgaglaaDoorZ25
import Derived.Below
import Derived.BigQuiet
import Derived.Carry
import Derived.ChangeSlices
import Derived.Deep.AppendLies
import Derived.Deep.Draws
import Derived.Deep.Fields
import Derived.Deep.OwnRows
import Derived.Deep.QuietTactic
import Derived.Deep.Slices
import Derived.Handy
import Derived.IntWalk
import Derived.Laws.CopyOwn
import Derived.Laws.OwnMore
import Derived.Laws.Rows
import Derived.Lib.Hide
import Derived.Lib.SmallJoins
import Derived.Maps.AppendAt
import Derived.OpenShut
import Derived.ProofKit
import Derived.RegionTactic
import Derived.WalkKit
namespace Go.Proofs.YteipocjgmgaglaaDoor

section
open Go.ChangeShapes Go.WideShapes Go.ChangeAt Go.RowKit Go.Deep Go.Joins
structure Ev16 where
  kind : Int
  at_ : Int
  word : Int
  load : List Int
/-- The four cells from an address on hold an event; its list lies in memory. -/
def EvAt (w : World) (g o : Nat) (x : Ev16) : Prop :=
  ∃ u, w.cell? ⟨g, o, none⟩ = some (.int .i64 x.kind) ∧ w.cell? ⟨g, o + 1, none⟩ = some (.int .i64 x.at_) ∧ w.cell? ⟨g, o + 2, none⟩ = some (.int .i64 x.word) ∧ w.cell? ⟨g, o + 3, none⟩ = some u ∧ Lies w (fun _ => True) u (ints x.load) ∧ CapOk u
def Evs (w : World) (v : Value) (l : List Ev16) : Prop :=
  ∃ A c, v = .slice A l.length c ∧ (0 < l.length → ∃ g o, A = some ⟨g, o, none⟩ ∧ g < w.heap.size ∧ ∀ k x, l[k]? = some x → EvAt w g (o + k * 4) x)
theorem EvAt.below {w w' : World} {g o : Nat} {x : Ev16} (h : EvAt w g o x) (hb : Below w.heap.size w w') : EvAt w' g o x := by
  obtain ⟨u, h0, h1, h2, h3, hl, hc⟩ := h
  have hlt := World.block_lt_of_cell? w _ h0
  exact ⟨u, (hb.cell (p := ⟨g, o, none⟩) hlt).trans h0, (hb.cell (p := ⟨g, o + 1, none⟩) hlt).trans h1, (hb.cell (p := ⟨g, o + 2, none⟩) hlt).trans h2, (hb.cell (p := ⟨g, o + 3, none⟩) hlt).trans h3, hl.below hb, hc⟩
theorem Evs.open_ {w : World} {v : Value} {l : List Ev16} (h : Evs w v l) : ∃ A n c, v = .slice A n c ∧ l.length = n ∧ Evs w (.slice A n c) l := by
  have h0 := h
  obtain ⟨A, c, rfl, _⟩ := h
  exact ⟨A, _, c, rfl, rfl, h0⟩
theorem Evs.at_ {w : World} {A : Option Addr} {n c k : Nat} {l : List Ev16} {x : Ev16} (h : Evs w (.slice A n c) l) (hk : l[k]? = some x) : ∃ g o, A = some ⟨g, o, none⟩ ∧ g < w.heap.size ∧ EvAt w g (o + k * 4) x := by
  obtain ⟨A', c', hv, hA⟩ := h
  injection hv with e1 e2 e3
  subst e1
  obtain ⟨g, o, rfl, hg, hc⟩ := hA (by have := lt_of_at hk; omega)
  exact ⟨g, o, rfl, hg, hc k x hk⟩
section
variable {H : Type} {enc : TypeId × Value → H} {w : World} {base : Nat} {spare : Nat → Bool} {held : Bool}
/-- A slice of integers, as its reading in a struct has it. -/
theorem list_trod {t e : TypeId} {fuel : Nat} {cs : List Value} {x : DataW H × List MemPlace} (ht : Tryd.prog.underlying t = some (.slice e)) (he : Tryd.prog.underlying e = some (.int .i64)) (hC : Tryd.prog.cellsOf e = 1)
    (hf : DataW.trod enc Tryd.prog w base spare held fuel t cs = some x) : ∃ (u : Value) (l : List Int), cs = [u] ∧ Lies w (fun _ => True) u (ints l) ∧ CapOk u := by
  rcases open_ints ht he hC hf with ⟨hcs, _⟩ | ⟨a, len, cap, zs, hcs, _, hl, hm, hzl, _, hat, _⟩
  · exact ⟨_, [], hcs, Lies.nil_ _ _, rfl⟩
  · have hlz : len ≤ zs.length := by rw [hzl]; split <;> omega
    have htl : (zs.take len).length = len := by rw [List.length_take]; omega
    refine ⟨_, zs.take len, hcs, ⟨some a, cap, by rw [ints_len, htl], fun hp => ?_⟩, hl⟩
    rw [ints_len, htl] at hp
    have h0 := hat 0 (by omega)
    have hlt := World.block_lt_of_cell? w _ h0
    obtain ⟨g, o, s⟩ := a
    have hs : s = none := by
      cases s with
      | none => rfl
      | some q =>
        exfalso
        unfold World.cell? at h0
        simp only [Addr.add] at h0
        split at h0
        · simp at h0
        · cases h0
    subst hs
    refine ⟨g, o, rfl, trivial, by simpa [Addr.add] using hlt, fun j u hu => ?_⟩
    have hj : j < len := by have := (List.getElem?_eq_some_iff.1 hu).1; rwa [ints_len, htl] at this
    have hx := hat j (by omega)
    rw [Addr.add_lit] at hx
    rw [hx]
    have : (ints (zs.take len))[j]? = some (.int .i64 (zs.getD j 0)) := by
      refine ints_some ?_
      rw [List.getElem?_take, if_pos hj, List.getElem?_eq_getElem (by omega), List.getD_eq_getElem?_getD, List.getElem?_eq_getElem (by omega)]
      rfl
    rw [this] at hu
    exact hu
set_option maxRecDepth 100000 in
/-- One event, opened. -/
theorem ev_trod {fuel : Nat} {cs : List Value} {x : DataW H × List MemPlace}
    (h : DataW.trod enc Tryd.prog w base spare held fuel 41 cs = some x) : ∃ (a b c : Int) (u : Value) (l : List Int), cs = [.int .i64 a, .int .i64 b, .int .i64 c, u] ∧ Lies w (fun _ => True) u (ints l) ∧ CapOk u := by
  obtain ⟨xs, n, -, rfl, hl, hlen, hf⟩ := DataW.trod_struct Tryd.underlying41 h
  have c1 : Tryd.prog.cellsOf 3 = 1 := by kernel_rfl
  have c2 : Tryd.prog.cellsOf 33 = 1 := by kernel_rfl
  have c3 : Tryd.prog.cellsOf 41 = 4 := by kernel_rfl
  rw [c3] at hl
  match xs, hlen with
  | [y0, y1, y2, y3], _ =>
    match cs, hl with
    | [v0, v1, v2, v3], _ =>
      have f0 := hf 0 _ rfl
      have f1 := hf 1 _ rfl
      have f2 := hf 2 _ rfl
      have f3 := hf 3 _ rfl
      replace f0 : DataW.trod enc Tryd.prog w base spare held n 3 ((List.drop 0 [v0, v1, v2, v3]).take (Tryd.prog.cellsOf 3)) = _ := f0
      replace f1 : DataW.trod enc Tryd.prog w base spare held n 3 ((List.drop 1 [v0, v1, v2, v3]).take (Tryd.prog.cellsOf 3)) = _ := f1
      replace f2 : DataW.trod enc Tryd.prog w base spare held n 3 ((List.drop 2 [v0, v1, v2, v3]).take (Tryd.prog.cellsOf 3)) = _ := f2
      replace f3 : DataW.trod enc Tryd.prog w base spare held n 33 ((List.drop 3 [v0, v1, v2, v3]).take (Tryd.prog.cellsOf 33)) = _ := f3
      rw [c1] at f0 f1 f2
      rw [c2] at f3
      simp only [List.drop_zero, List.take_succ_cons, List.take_zero, List.drop_succ_cons, List.getElem?_cons_zero, List.getElem?_cons_succ] at f0 f1 f2 f3
      obtain ⟨n0, g0, h0, -⟩ := DataW.trod_int Tryd.underlying3 f0
      obtain ⟨n1, g1, h1, -⟩ := DataW.trod_int Tryd.underlying3 f1
      obtain ⟨n2, g2, h2, -⟩ := DataW.trod_int Tryd.underlying3 f2
      obtain ⟨u, l, hu, hl3, hc3⟩ := list_trod Tryd.underlying33 Tryd.underlying3 c1 f3
      injection g0 with g0
      injection g1 with g1
      injection g2 with g2
      injection hu with hu
      exact ⟨n0, n1, n2, u, l, by rw [g0, g1, g2, hu], hl3, hc3⟩
set_option maxRecDepth 100000 in
/-- An argument of events. -/
theorem open_evs {r : Go.Reach} {b0 : Nat} {v : Value} {d : DataW H} {p : List MemPlace} (hv : Value.okWide Tryd.prog w r b0 26 v) (h : DataW.Trod enc Tryd.prog w base spare held 26 v d p) :
    ∃ l : List Ev16, Evs w v l ∧ l.length ≤ maxLen := by
  obtain ⟨A, len, cap, rfl⟩ := okWide_slice Tryd.underlying26 hv
  obtain ⟨fuel, hf⟩ := h
  rcases open_slice Tryd.underlying26 hf with ⟨hcs, _⟩ | ⟨a, len', cap', m, n, D, Pl, hcs, _, hl, hm, hmm, _, hi⟩
  · simp [Value.cells] at hcs
    obtain ⟨rfl, rfl, rfl⟩ := hcs
    exact ⟨[], ⟨none, 0, rfl, fun h => absurd h (by simp)⟩, by simp⟩
  · simp [Value.cells] at hcs
    obtain ⟨rfl, rfl, rfl⟩ := hcs
    have hC : Tryd.prog.cellsOf 41 = 4 := by kernel_rfl
    have hlm : len ≤ m := by subst hmm; split <;> omega
    obtain ⟨g, o, s⟩ := a
    by_cases hlen : len = 0
    · subst hlen
      exact ⟨[], ⟨some ⟨g, o, s⟩, cap, rfl, fun h => absurd h (by simp)⟩, by simp⟩
    have hs : s = none := by
      obtain ⟨cs', hc, htr⟩ := hi 0 (by omega)
      rw [hC] at hc
      obtain ⟨a', b', c', u', l', rfl, _⟩ := ev_trod htr
      obtain ⟨_, hcl, hat⟩ := World.cells?_some hc
      have h0 := hat 0 (by omega)
      cases s with
      | none => rfl
      | some q =>
        exfalso
        unfold World.cell? at h0
        simp only [Addr.add] at h0
        split at h0
        · simp at h0
        · cases h0
    subst hs
    have each : ∀ i, ∃ x : Ev16, i < len → EvAt w g (o + i * 4) x := by
      intro i
      by_cases hil : i < len
      · obtain ⟨cs', hc, htr⟩ := hi i (by omega)
        rw [hC] at hc
        obtain ⟨a', b', c', u', l', rfl, hl', hc'⟩ := ev_trod htr
        obtain ⟨_, hcl, hat⟩ := World.cells?_some hc
        have h0 := hat 0 (by omega)
        have h1 := hat 1 (by omega)
        have h2 := hat 2 (by omega)
        have h3 := hat 3 (by omega)
        rw [Addr.add_lit, Addr.add_lit] at h0 h1 h2 h3
        exact ⟨⟨a', b', c', l'⟩, fun _ => ⟨u', h0, h1, h2, h3, hl', hc'⟩⟩
      · exact ⟨⟨0, 0, 0, []⟩, fun h => absurd h hil⟩
    obtain ⟨f, hf'⟩ := Classical.axiomOfChoice each
    refine ⟨(List.range len).map f, ⟨some ⟨g, o, none⟩, cap, by simp, fun hp => ⟨g, o, rfl, ?_, fun k x hk => ?_⟩⟩, by simp; omega⟩
    · obtain ⟨u, h0, _⟩ := hf' 0 (by omega)
      exact World.block_lt_of_cell? w _ h0
    · have hkl : k < len := by have := (List.getElem?_eq_some_iff.1 hk).1; simpa using this
      simp only [List.getElem?_map, List.getElem?_range hkl, Option.map_some, Option.some.injEq] at hk
      subst hk
      exact hf' k hkl
end
end

end Go.Proofs.YteipocjgmgaglaaDoor
