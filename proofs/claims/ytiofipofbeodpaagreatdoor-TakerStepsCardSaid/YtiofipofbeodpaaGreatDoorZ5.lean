/-
  Texts merged, with what one theorem needs of them.
  Conditions: those that each theorem states.
-/
import Derived.Test.YtiofipofbeodpaaGreatDoorRows
import Derived.Test.YtiofipofbeodpaaGreatDoorZ1
import Derived.Test.YtiofipofbeodpaaGreatDoorZ2
import Derived.Below
import Derived.BigQuiet
import Derived.Deep.AppendLies
import Derived.Deep.Draws
import Derived.Deep.OwnRows
import Derived.Deep.QuietTactic
import Derived.Handy
import Derived.IntWalk
import Derived.LaidLaws
import Derived.LaidMore
import Derived.Laws.CopyOwn
import Derived.Laws.OwnMore
import Derived.Laws.Rows
import Derived.Lib.Hide
import Derived.MakeChecks
import Derived.Maps.AppendAt
import Derived.OpenShut
import Derived.ProofKit
import Derived.WalkKit
namespace Go.Proofs.YtiofipofbeodpaaGreatDoor

section
open Go.ChangeShapes Go.WideShapes Go.ChangeAt Go.RowKit
/-- The table as the chapter gives it: for each field the first offset, the rings ahead, the width, and whether it has slots. -/
def tabRow : Nat → Int × Int × Int × Bool
  | 1 => (0, 0, 1, false)
  | 2 => (1, 0, 1, false)
  | 3 => (2, 0, 1, false)
  | 4 => (3, 0, 1, false)
  | 5 => (4, 0, 1, true)
  | 6 => (4, 1, 1, true)
  | 7 => (4, 2, 1, true)
  | 8 => (4, 3, 8, true)
  | _ => (0, 0, 0, false)
/-- The variable holds the table. -/
def TabAt (w : World) : Prop := ∀ k : Nat, k < 9 →
  w.cell? ⟨0, 4 * k, none⟩ = some (.int .i64 (tabRow k).1) ∧ w.cell? ⟨0, 4 * k + 1, none⟩ = some (.int .i64 (tabRow k).2.1) ∧
  w.cell? ⟨0, 4 * k + 2, none⟩ = some (.int .i64 (tabRow k).2.2.1) ∧ w.cell? ⟨0, 4 * k + 3, none⟩ = some (.bool (tabRow k).2.2.2)
theorem TabAt.lt {w : World} (h : TabAt w) : 0 < w.heap.size := by
  have h0 := (h 0 (by omega)).1
  refine Nat.lt_of_not_le fun hle => ?_
  simp [World.cell?, Array.getElem?_eq_none hle] at h0
theorem TabAt.below {w w' : World} (h : TabAt w) (hb : Below w.heap.size w w') : TabAt w' := by
  have hk : ∀ o, w'.cell? ⟨0, o, none⟩ = w.cell? ⟨0, o, none⟩ := fun o => World.cell?_of_block (w := w) (hb.block _ h.lt)
  intro k hk9
  rw [hk, hk, hk, hk]
  exact h k hk9
theorem TabAt.al {w : World} (h : TabAt w) (o : Obj) : TabAt (w.alloc o) := h.below (below_al w o)
theorem gFields : Tryz.prog.globalNamed "switchyard/plot.fields" = some 0 := by kernel_rfl
theorem tFields : (Tryz.prog.globals[0]?).map (·.type) = some 129 := by kernel_rfl
set_option maxRecDepth 100000 in
/-- One row of the table, opened. -/
theorem ext_of_trod {H : Type} {enc : TypeId × Value → H} {W : World} {base : Nat} {sp : Nat → Bool} {held : Bool} {fuel : Nat} {cs : List Value} {a b c : Int} {o : Bool} {x : DataW H × List MemPlace}
    (h : DataW.trod enc Tryz.prog W base sp held fuel 128 cs = some x) (hx : x.1 = .agg [.lit (.int .i64 a), .lit (.int .i64 b), .lit (.int .i64 c), .lit (.bool o)]) : cs = [.int .i64 a, .int .i64 b, .int .i64 c, .bool o] := by
  obtain ⟨xs, n, -, rfl, hl, hlen, hf⟩ := DataW.trod_struct Tryz.underlying128 h
  have c1 : Tryz.prog.cellsOf 3 = 1 := by kernel_rfl
  have c2 : Tryz.prog.cellsOf 4 = 1 := by kernel_rfl
  have c3 : Tryz.prog.cellsOf 128 = 4 := by kernel_rfl
  rw [c3] at hl
  match xs, hlen with
  | [y0, y1, y2, y3], _ =>
    match cs, hl with
    | [v0, v1, v2, v3], _ =>
      simp only [List.map_cons, List.map_nil, DataW.agg.injEq, List.cons.injEq, and_true] at hx
      obtain ⟨e0, e1, e2, e3⟩ := hx
      have f0 := hf 0 _ rfl
      have f1 := hf 1 _ rfl
      have f2 := hf 2 _ rfl
      have f3 := hf 3 _ rfl
      replace f0 : DataW.trod enc Tryz.prog W base sp held n 3 ((List.drop 0 [v0, v1, v2, v3]).take (Tryz.prog.cellsOf 3)) = _ := f0
      replace f1 : DataW.trod enc Tryz.prog W base sp held n 3 ((List.drop 1 [v0, v1, v2, v3]).take (Tryz.prog.cellsOf 3)) = _ := f1
      replace f2 : DataW.trod enc Tryz.prog W base sp held n 3 ((List.drop 2 [v0, v1, v2, v3]).take (Tryz.prog.cellsOf 3)) = _ := f2
      replace f3 : DataW.trod enc Tryz.prog W base sp held n 4 ((List.drop 3 [v0, v1, v2, v3]).take (Tryz.prog.cellsOf 4)) = _ := f3
      rw [c1] at f0 f1 f2
      rw [c2] at f3
      simp only [List.drop_zero, List.take_succ_cons, List.take_zero, List.drop_succ_cons, List.getElem?_cons_zero, List.getElem?_cons_succ] at f0 f1 f2 f3
      obtain ⟨n0, g0, h0, -⟩ := DataW.trod_int Tryz.underlying3 f0
      obtain ⟨n1, g1, h1, -⟩ := DataW.trod_int Tryz.underlying3 f1
      obtain ⟨n2, g2, h2, -⟩ := DataW.trod_int Tryz.underlying3 f2
      obtain ⟨n3, g3, h3⟩ := DataW.trod_bool Tryz.underlying4 f3
      subst h0; subst h1; subst h2; subst h3
      injection e0 with e0; injection e0 with _ e0
      injection e1 with e1; injection e1 with _ e1
      injection e2 with e2; injection e2 with _ e2
      injection e3 with e3; injection e3 with e3
      subst e0; subst e1; subst e2; subst e3
      injection g0 with g0
      injection g1 with g1
      injection g2 with g2
      injection g3 with g3
      rw [g0, g1, g2, g3]
theorem getD4 {α : Type} {l : List α} {k : Nat} {a b c d : α} (h : (l.drop k).take 4 = [a, b, c, d]) : l[k]? = some a ∧ l[k + 1]? = some b ∧ l[k + 2]? = some c ∧ l[k + 3]? = some d := by
  have e : ∀ j, j < 4 → l[k + j]? = ([a, b, c, d] : List α)[j]? := fun j hj => by
    rw [← h]
    simp [hj]
  exact ⟨e 0 (by omega), e 1 (by omega), e 2 (by omega), e 3 (by omega)⟩
set_option maxRecDepth 100000 in
/-- WHAT THE ROW's CONDITION GIVES: the table's cells. -/
theorem tab_of_laid {W : World} {l : List (String × DataW Unit)} (hl : l = [("switchyard/plot.fields", Rows.laid_switchyard_plot_fields)]) (h : laidMetH Tryz.prog l W) : TabAt W := by
  subst hl
  rw [MakeChecks.laidMetH_plain _ _ _ (by kernel_rfl)] at h
  obtain ⟨ps, ⟨g0, t0, cs0, f0, p0, q0, hg0, ht0, hv0, hd0, -, -⟩, -⟩ := h
  obtain rfl := Option.some.inj (gFields.symm.trans hg0)
  obtain rfl := Option.some.inj (tFields.symm.trans ht0)
  obtain ⟨xs, m, -, hx, hlen, hn, hel⟩ := DataW.trod_array Tryz.underlying129 hd0
  have c4 : Tryz.prog.cellsOf 128 = 4 := by kernel_rfl
  simp only [Prod.mk.injEq] at hx
  obtain ⟨hx1, -⟩ := hx
  unfold Rows.laid_switchyard_plot_fields at hx1
  simp only [DataW.agg.injEq] at hx1
  match xs, hn with
  | [y0, y1, y2, y3, y4, y5, y6, y7, y8], _ =>
    simp only [List.map_cons, List.map_nil, List.cons.injEq, and_true] at hx1
    obtain ⟨e0, e1, e2, e3, e4, e5, e6, e7, e8⟩ := hx1
    have key : ∀ i (hi : i < 9) (y : DataW Unit × List MemPlace) (a b c : Int) (o : Bool), ([y0, y1, y2, y3, y4, y5, y6, y7, y8] : List (DataW Unit × List MemPlace))[i]? = some y → y.1 = .agg [.lit (.int .i64 a), .lit (.int .i64 b), .lit (.int .i64 c), .lit (.bool o)] →
        W.cell? ⟨0, 4 * i, none⟩ = some (.int .i64 a) ∧ W.cell? ⟨0, 4 * i + 1, none⟩ = some (.int .i64 b) ∧ W.cell? ⟨0, 4 * i + 2, none⟩ = some (.int .i64 c) ∧ W.cell? ⟨0, 4 * i + 3, none⟩ = some (.bool o) := by
      intro i hi y a b c o hy hya
      have h1 := (hel i hi).trans hy
      rw [c4, Nat.mul_comm i 4] at h1
      obtain ⟨k0, k1, k2, k3⟩ := getD4 (ext_of_trod h1 hya)
      have hc := World.var?_cell gFields hv0
      rw [hc, hc, hc, hc]
      simp only [← Array.getElem?_toList]
      exact ⟨k0, k1, k2, k3⟩
    intro k hk
    have : k = 0 ∨ k = 1 ∨ k = 2 ∨ k = 3 ∨ k = 4 ∨ k = 5 ∨ k = 6 ∨ k = 7 ∨ k = 8 := by omega
    rcases this with rfl | rfl | rfl | rfl | rfl | rfl | rfl | rfl | rfl
    · exact key 0 hk _ _ _ _ _ rfl e0.symm
    · exact key 1 hk _ _ _ _ _ rfl e1.symm
    · exact key 2 hk _ _ _ _ _ rfl e2.symm
    · exact key 3 hk _ _ _ _ _ rfl e3.symm
    · exact key 4 hk _ _ _ _ _ rfl e4.symm
    · exact key 5 hk _ _ _ _ _ rfl e5.symm
    · exact key 6 hk _ _ _ _ _ rfl e6.symm
    · exact key 7 hk _ _ _ _ _ rfl e7.symm
    · exact key 8 hk _ _ _ _ _ rfl e8.symm
end

end Go.Proofs.YtiofipofbeodpaaGreatDoor
