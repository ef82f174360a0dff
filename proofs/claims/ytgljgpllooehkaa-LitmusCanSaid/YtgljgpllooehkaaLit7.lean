/-
  Words for structs of many cells as a whole: load, store, a new variable, a slice literal of one, append; lists of states.
  Conditions: those that each theorem states.
-/
import Derived.Test.YtgljgpllooehkaaLit6
import Derived.Test.YtgljgpllooehkaaWhole
import Derived.Great.BuildSlice
namespace Go.Proofs.Ytgljgpllooehkaa
open Go.ChangeShapes Go.WideShapes Go.ChangeAt Go.RowKit

/-- A slice literal of one struct. -/
theorem one_walk {P : Program} {w : World} {ops : Array Oper} {rest : List Oper} {o : Oper} {a : Act} {Q : Exit → Act → World → Prop} (hgd : o.guard = none) (S T : TypeId) (y : Operand) (ho : o.op = .buildSlice S 1 #[(0, y)])
    (cs : List Value) (hy : a.eval y = .agg cs.toArray) (hu : P.underlying S = some (.slice T)) (n : Nat) (hi : (P.info? T).map (fun i => (i.size, i.zero.isSome)) = some (n, true)) (hn : cs.length = n) (hpos : 0 < n) (hsm : n ≤ 1000)
    (h : ∀ w', Row w' w.heap.size T cs → Below w.heap.size w w' → w'.heap.size = w.heap.size + 1 → wpList P ops Q rest (a.put o.dst (.slice (some ⟨w.heap.size, 0, none⟩) 1 1)) w') : wpList P ops Q (o :: rest) a w := by
  obtain ⟨ie, hie, e⟩ := Option.map_eq_some_iff.1 hi
  simp only [Prod.mk.injEq] at e
  obtain ⟨z, hz⟩ := Option.isSome_iff_exists.1 e.2
  refine wpList_buildSlice hgd S T 1 #[(0, y)] ho cs.toArray ie z hu hie hz (by rw [e.1]; omega) (by rw [e.1]; omega) ?_ (h _ (by simpa using Row.new w T cs.toArray) (below_al _ _) (by simp))
  have := Great.fill_whole (s := n) hpos [.agg cs.toArray] ((Array.range (1 * ie.size)).map (z.cells[· % z.cells.size]!)) (by simp [Value.cells, hn]) (by simp [e.1])
  rw [e.1]
  rw [e.1] at this
  simpa [hy, Value.cells] using this

/-- The cells of states, one behind the other. -/
def stsL (ts : List St) : List Int := ts.flatMap stL

/-- A list of states of the call's own. -/
def Sts (w : World) (base : Nat) (v : Value) (ts : List St) : Prop := w.ownsRow base 58 46 v ts.length (ints (stsL ts))

theorem state_info : (Try.prog.info? 58).map (fun i => (i.zero, i.size, i.bytes)) = some (some (.agg (ints (List.replicate 46 0)).toArray), 46, 368) := by kernel_rfl
theorem state_size : (Try.prog.info? 58).map (·.size) = some 46 := by kernel_rfl
theorem state_zero : (Try.prog.info? 58).map (·.zero) = some (some (.agg (ints (List.replicate 46 0)).toArray)) := by kernel_rfl
theorem state_one : (Try.prog.info? 58).map (fun i => (i.size, i.zero.isSome)) = some (46, true) := by kernel_rfl
theorem state_struct : isStruct Try.prog 58 = true := by kernel_rfl

theorem Sts.nil_ (w : World) (base : Nat) : Sts w base (.slice none 0 0) [] := ⟨rfl, .inl ⟨rfl, rfl⟩⟩

theorem stsL_snoc (ts : List St) (t : St) : stsL (ts ++ [t]) = stsL ts ++ stL t := by simp [stsL]

theorem stsL_len : ∀ {ts : List St}, (∀ t ∈ ts, Shape t) → (stsL ts).length = ts.length * 46
  | [], _ => rfl
  | t :: ts, h => by
    have ih := stsL_len (ts := ts) (fun u hu => h u (List.mem_cons_of_mem _ hu))
    have ht := stL_len (h t (by simp))
    simp only [stsL, List.flatMap_cons, List.length_append, List.length_cons] at ih ⊢
    rw [ih, ht]
    omega

/-- append(v, t). -/
theorem appS_walk {w : World} {ops : Array Oper} {rest : List Oper} {o : Oper} {a : Act} {Q : Exit → Act → World → Prop} (hgd : o.guard = none) (s x : Operand)
    (ho : o.op = .call { callee := .builtin .append, args := #[s, x], argTypes := #[49, 49] }) (base : Nat) (v : Value) (ts : List St) (hs : a.eval s = v) (hown : Sts w base v ts) (hlen : ts.length ≤ 100000000000)
    (g : Nat) (hx : a.eval x = .slice (some ⟨g, 0, none⟩) 1 1) (t : St) (ht : Shape t) (hg : StAt w g t) (hbase : base ≤ w.heap.size)
    (h : ∀ v' w', Sts w' base v' (ts ++ [t]) → w.grownBy w' v.ownBlock → (v'.ownBlock = v.ownBlock ∨ v'.ownBlock = some w.heap.size) → wpList Try.prog ops Q rest (a.put o.dst v') w') : wpList Try.prog ops Q (o :: rest) a w := by
  obtain ⟨i0, hi, hz0, hz1, hz2⟩ := info_parts state_info
  have hl := stL_len ht
  obtain ⟨v', w', hrun, h2, h3, _, h5⟩ := run_append_own_at (P := Try.prog) w base 49 o.type 58 i0 _ 46 368 Try.underlying49 hi hz0 hz1 hz2 (by simp [Value.cells, ints]) (by omega) v ts.length (ints (stsL ts)) hown ⟨g, 0, none⟩ 1 1 (ints (stL t)) (by rw [ints_len, hl])
    (fun j u hu => by rw [Addr.add_lit, Nat.zero_add, Row.cell hg]; exact hu) (ints_one _) (by unfold maxLen; omega) (by omega) hbase
  refine wpList_plain hgd fun K hK => ?_
  unfold Oper.wp
  simp [execOp, ho, resolve, invoke, builtin, hs, hx, hrun, Result.andThen]
  refine hK _ _ (h v' w' ?_ h3 h5)
  unfold Sts
  rw [stsL_snoc, ints_append, List.length_append, List.length_singleton]
  exact h2

#print axioms appS_walk
#print axioms one_walk
end Go.Proofs.Ytgljgpllooehkaa
