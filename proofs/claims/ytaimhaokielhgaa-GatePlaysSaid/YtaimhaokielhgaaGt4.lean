/-
  Layer 11 (gate): Same of two gates.
  Conditions: those that each theorem states.
-/
import Derived.Test.YtaimhaokielhgaaGt3
import Derived.Test.YtaimhaokielhgaaEqB
namespace Go.Proofs.Ytaimhaokielhgaa
open Go.ChangeShapes Go.WideShapes Go.ChangeAt Go.RowKit

theorem gate_fields : (Try.prog.fieldsOf 59).toList.map (fun f => (decide (f.name ≠ "_"), f.type, f.offset)) = [(true, 3, 0), (true, 56, 1), (true, 57, 9)] := by kernel_rfl

theorem gh_list (l : List (Int × Bool)) : gh l = (l.map (·.2)).map Value.bool := by simp [gh]
theorem ge_list (l : List (Int × Bool)) : ge l = ints (l.map (·.1)) := by simp [ge, ints]

theorem pairs_eq {l m : List (Int × Bool)} (h1 : l.map (·.1) = m.map (·.1)) (h2 : l.map (·.2) = m.map (·.2)) : l = m := by
  induction l generalizing m with
  | nil => cases m with
    | nil => rfl
    | cons y m => simp at h1
  | cons x l ih => cases m with
    | nil => simp at h1
    | cons y m =>
      simp only [List.map_cons, List.cons.injEq] at h1 h2
      rw [ih h1.2 h2.2, Prod.ext h1.1 h2.1]

theorem gate_same (l m : List (Int × Bool)) : (((l.length : Int) == (m.length : Int)) && (decide ((padG l).map (·.2) = (padG m).map (·.2)) && (decide ((padG l).map (·.1) = (padG m).map (·.1)) && true))) = decide (l = m) := by
  by_cases h : l = m
  · subst h; simp
  · rw [decide_eq_false h]
    cases hb : (((l.length : Int) == (m.length : Int)) && (decide ((padG l).map (·.2) = (padG m).map (·.2)) && (decide ((padG l).map (·.1) = (padG m).map (·.1)) && true))) with
    | false => rfl
    | true =>
      simp only [Bool.and_eq_true, decide_eq_true_eq, beq_iff_eq] at hb
      obtain ⟨h1, h2, h3, -⟩ := hb
      exact absurd (padG_inj (by omega) (pairs_eq h3 h2)) h

set_option maxRecDepth 100000 in
theorem eq_gate (l m : List (Int × Bool)) (hl : l.length ≤ 8) (hm : m.length ≤ 8) (W : World) :
    (binOp .eql 59 (.agg (gcells l).toArray) (.agg (gcells m).toArray)).run Try.prog W = .ok (.bool (decide (l = m))) W := by
  have i0 : ∀ W, (isAgg 3).run Try.prog W = .ok false W := fun W => by simp [isAgg, run_underlying Try.underlying3]
  have a8 : ∀ W, (isAgg 56).run Try.prog W = .ok true W := fun W => by simp [isAgg, run_underlying Try.underlying56]
  have b8 : ∀ W, (isAgg 57).run Try.prog W = .ok true W := fun W => by simp [isAgg, run_underlying Try.underlying57]
  have p1 : ∀ x : List (Int × Bool), x.length ≤ 8 → ((gcells x).drop 1).take 8 = ((padG x).map (·.2)).map Value.bool := fun x hx => by
    rw [gcells, List.drop_succ_cons, List.drop_zero, List.take_append_of_le_length (by simp [gh, padG_len hx]), List.take_of_length_le (by simp [gh, padG_len hx]), gh_list]
  have p2 : ∀ x : List (Int × Bool), x.length ≤ 8 → ((gcells x).drop 9).take 8 = ints ((padG x).map (·.1)) := fun x hx => by
    rw [gcells, List.drop_succ_cons, List.drop_append_of_le_length (by simp [gh, padG_len hx]), List.drop_of_length_le (by simp [gh, padG_len hx]), List.nil_append, List.take_of_length_le (by simp [ge, padG_len hx]), ge_list]
  have E8 : EqAgg 57 8 9999 := eq_ints (d := 9997) Try.underlying57 Try.underlying3 i0 Try.sizeOf3
  have h3 := tri_one (P := Try.prog) (d := 9999) (fs := []) _ _ _ true W (part_cells b8 Try.sizeOf57 (gcells l) 9 W) (part_cells b8 Try.sizeOf57 (gcells m) 9 W) (by rw [p2 l hl, p2 m hm]; exact E8 _ _ (by simp [padG_len hl]) (by simp [padG_len hm]) W) (by simp [eqTri])
  have h2 := tri_one (P := Try.prog) (d := 9999) _ _ _ _ W (part_cells a8 Try.sizeOf56 (gcells l) 1 W) (part_cells a8 Try.sizeOf56 (gcells m) 1 W) (by rw [p1 l hl, p1 m hm]; exact eq_bools (d := 9997) Try.underlying56 _ _ (by simp [padG_len hl]) (by simp [padG_len hm]) W) h3
  have h1 := tri_one (P := Try.prog) (d := 9999) _ _ _ _ W (part_cell i0 (cs := gcells l) (o := 0) (x := .int .i64 l.length) rfl W) (part_cell i0 (cs := gcells m) (o := 0) (x := .int .i64 m.length) rfl W) (run_equalIn_int W 9998 3 .i64 .i64 _ _ Try.underlying3) h2
  rw [run_eql_struct, show (10000 : Nat) = 9999 + 1 from rfl, run_equalIn_agg W 9999 59 _ _ (by kernel_rfl) (by kernel_rfl), eqFields_tri, gate_fields, h1, gate_same]
  rfl

theorem gate_guard : Try.prog.eqGuardType Try.prog.depth 59 = false := by kernel_rfl

/-- Two gates are compared in a region that only reads. -/
theorem quiet_eqG {w0 : World} {o : Oper} {a : Act} {K : Act → Prop} (x y : Operand) (tt : TypeId) (ho : o.op = .binOp .eql 59 x y tt) (l m : List (Int × Bool)) (hx : a.eval x = .agg (gcells l).toArray) (hy : a.eval y = .agg (gcells m).toArray) (hl : l.length ≤ 8) (hm : m.length ≤ 8)
    (h : K (a.put o.dst (.bool (decide (l = m))))) : o.quiet Try.prog a (fun w' => ∃ n, w' = w0.drewN n) K :=
  ⟨_, fun w _ => by
    unfold Oper.quietAt execOp
    simp only [ho, hx, hy, Sem.run_bind, run_eqGuard_agg w .eql 59 x y _ _ gate_guard, Result.andThen_ok, eq_gate l m hl hm, Sem.run_pure]
    exact ⟨rfl, rfl⟩, h⟩

set_option maxRecDepth 100000 in
set_option maxHeartbeats 2000000 in
theorem same11_any (g g' : Nat) (l m : List (Int × Bool)) (w : World) (r : GateAt w g l) (r' : GateAt w g' m) :
    Calls Try.prog 20 #[.pointer (some ⟨g, 0, none⟩), .pointer (some ⟨g', 0, none⟩)] w fun e w' => e = .returned (.bool (decide (l = m))) ∧ Below w.heap.size w w' := by
  have HP : Hid (∀ j u, (gcells l)[j]? = some u → w.cell? ((⟨g, 0, none⟩ : Addr).add j) = some u) := Lib.hid (fun j u hu => by
    rw [Addr.add_lit, r.row.cell, Nat.zero_add]; exact hu)
  have HQ : Hid (∀ j u, (gcells m)[j]? = some u → w.cell? ((⟨g', 0, none⟩ : Addr).add j) = some u) := Lib.hid (fun j u hu => by
    rw [Addr.add_lit, r'.row.cell, Nat.zero_add]; exact hu)
  have SP : Hid ((Try.prog.info? 59).map (·.size) = some (gcells l).length) := Lib.hid (by rw [gcells_len r.c8]; exact gate_size)
  have SQ : Hid ((Try.prog.info? 59).map (·.size) = some (gcells m).length) := Lib.hid (by rw [gcells_len r'.c8]; exact gate_size)
  have L8 := Lib.hid r.c8
  have M8 := Lib.hid r'.c8
  clear r r'
  go_enter Try.func20, Try.ntmps20
  go_wp2
  refine wp_region_quiet_lit (by kernel_rfl) (by kernel_rfl) ?_
  iterate 2 go_big_quiet_step (fail)
  go_big_quiet_want
  refine quiet_load 59 (.tmp 15) rfl ⟨g, 0, none⟩ rfl (gcells l) gate_struct SP.out HP.out ?_
  go_big_quiet_on
  go_simp
  iterate 2 go_big_quiet_step (fail)
  go_big_quiet_want
  refine quiet_load 59 (.tmp 18) rfl ⟨g', 0, none⟩ rfl (gcells m) gate_struct SQ.out HQ.out ?_
  go_big_quiet_on
  go_simp
  go_big_quiet_want
  refine quiet_eqG (.tmp 16) (.tmp 19) _ rfl l m rfl rfl L8.out M8.out ?_
  go_big_quiet_on
  go_simp
  iterate 1 go_big_quiet_step (fail)
  refine wpQuiet_nil ?_
  intro nq
  try go_simp
  go_wp2
  go_ret
  exact ⟨rfl, below_q _ _⟩

#print axioms same11_any
end Go.Proofs.Ytaimhaokielhgaa
