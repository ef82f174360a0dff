/-
  Layer 7 (litmus): states as keys of a map; sets of states; a scope whose jumps lower a ghost number.
  Conditions: those that each theorem states.
-/
import Derived.Test.YtgljgpllooehkaaLit9
import Derived.Maps.OwnSet
import Derived.Maps.OwnOps
import Derived.DeepKeys5
import Derived.ScopeJumps
import Derived.WalkMore
namespace Go.Proofs.Ytgljgpllooehkaa
open Go.ChangeShapes Go.WideShapes Go.ChangeAt Go.RowKit Go.Maps

/-! The integers of a state tell the state. -/

theorem pairL_inj : ∀ {a b : List (Int × Int)}, a.length = b.length → pairL a = pairL b → a = b
  | [], [], _, _ => rfl
  | p :: a, q :: b, hl, h => by
    simp only [pairL, List.flatMap_cons, List.cons_append, List.nil_append, List.cons.injEq] at h
    obtain ⟨h1, h2, h3⟩ := h
    rw [pairL_inj (a := a) (b := b) (by simpa using hl) h3, Prod.ext h1 h2]
  | [], _ :: _, hl, _ => by simp at hl
  | _ :: _, [], hl, _ => by simp at hl

theorem coreL_inj {c d : Core} (hc : CoreOk c) (hd : CoreOk d) (h : coreL c = coreL d) : c = d := by
  obtain ⟨n, r, q⟩ := c
  obtain ⟨m, t, p⟩ := d
  simp only [coreL, List.cons.injEq] at h
  obtain ⟨h1, h2⟩ := h
  have hr := hc.regs
  have ht := hd.regs
  simp only at hr ht
  obtain ⟨h3, h4⟩ := List.append_inj h2 (by rw [hr, ht])
  simp only [List.cons.injEq] at h4
  obtain ⟨h5, h6⟩ := h4
  have hl : q.length = p.length := by omega
  obtain ⟨h7, _⟩ := List.append_inj h6 (by rw [pairL_len, pairL_len, hl])
  obtain rfl : n = m := by omega
  rw [h3, pairL_inj hl h7]

theorem stL_inj {s t : St} (hs : Shape s) (ht : Shape t) (h : stL s = stL t) : s = t := by
  have hl : (s.cores.flatMap coreL).length = (t.cores.flatMap coreL).length := by
    have h1 := hs.flat.1
    have h2 := ht.flat.1
    rw [← List.flatMap_def] at h1 h2
    rw [h1, h2]
  obtain ⟨h1, h2⟩ := List.append_inj h hl
  obtain ⟨a0, a1, a2, e⟩ := three hs.len
  obtain ⟨b0, b1, b2, f⟩ := three ht.len
  have ka := fun i c hc => hs.core i c hc
  have kb := fun i c hc => ht.core i c hc
  rw [e] at ka h1
  rw [f] at kb h1
  simp only [List.flatMap_cons, List.flatMap_nil, List.append_nil] at h1
  have A0 := ka 0 a0 rfl
  have A1 := ka 1 a1 rfl
  have A2 := ka 2 a2 rfl
  have B0 := kb 0 b0 rfl
  have B1 := kb 1 b1 rfl
  have B2 := kb 2 b2 rfl
  obtain ⟨e0, h3⟩ := List.append_inj h1 (by rw [coreL_len A0, coreL_len B0])
  obtain ⟨e1, e2⟩ := List.append_inj h3 (by rw [coreL_len A1, coreL_len B1])
  obtain ⟨sc, sm⟩ := s
  obtain ⟨tc, tm⟩ := t
  simp only at e f h2
  rw [e, f, h2, coreL_inj A0 B0 e0, coreL_inj A1 B1 e1, coreL_inj A2 B2 e2]

/-! Every integer of a state is small. -/

theorem stL_small {s : St} (h : Shape s) : ∀ x ∈ stL s, 0 ≤ x ∧ x ≤ 9 := by
  intro x hx
  unfold stL at hx
  rcases List.mem_append.1 hx with hx | hx
  · obtain ⟨c, hc, hx⟩ := List.mem_flatMap.1 hx
    obtain ⟨i, hi⟩ := List.getElem?_of_mem hc
    have hok := h.core i c hi
    unfold coreL at hx
    rcases List.mem_cons.1 hx with rfl | hx
    · have := hok.next; omega
    · rcases List.mem_append.1 hx with hx | hx
      · exact hok.regd x hx
      · rcases List.mem_cons.1 hx with rfl | hx
        · have := hok.room; omega
        · rcases List.mem_append.1 hx with hx | hx
          · obtain ⟨p, hp, hx⟩ := List.mem_flatMap.1 hx
            have := hok.bufd p hp
            simp only [List.mem_cons, List.not_mem_nil, or_false] at hx
            rcases hx with rfl | rfl
            · omega
            · exact this.2.2
          · obtain ⟨_, rfl⟩ := List.mem_replicate.1 hx
            omega
  · exact h.memd x hx

/-! A value of integers alone is a key. -/

/-- At depth d, n integers in a row are read as a key of type t. -/
def KL (P : Program) (d : Nat) (t : TypeId) (n : Nat) : Prop := ∀ l : List Int, l.length = n → (∀ x ∈ l, 0 ≤ x ∧ x ≤ 9) → ∃ ls, P.keyLits d t (ints l) = some ls

theorem mapM_all {α β : Type} {f : α → Option β} : ∀ {L : List α}, (∀ x ∈ L, ∃ y, f x = some y) → ∃ ys, L.mapM f = some ys
  | [], _ => ⟨[], rfl⟩
  | x :: L, h => by
    obtain ⟨y, hy⟩ := h x (by simp)
    obtain ⟨ys, hys⟩ := mapM_all (L := L) (fun z hz => h z (by simp [hz]))
    exact ⟨y :: ys, by simp [hy, hys]⟩

theorem KL_int {P : Program} {t : TypeId} (ht : P.underlying t = some (.int .i64)) (d : Nat) : KL P (d + 1) t 1 := by
  intro l hl hs
  obtain ⟨x, rfl⟩ : ∃ x, l = [x] := by
    match l, hl with
    | [x], _ => exact ⟨x, rfl⟩
  have hx := hs x (by simp)
  have hwf : (Lit.int .i64 x).wf = true := WalkArith.wf_i64 (by omega)
  exact ⟨[.int .i64 x], by simp [Program.keyLits, ht, ints, hwf]⟩

theorem ints_part (l : List Int) (o c : Nat) : ((ints l).drop o).take c = ints ((l.drop o).take c) := by simp [ints, List.map_drop, List.map_take]

theorem KL_array {P : Program} {t e : TypeId} {n c : Nat} (ht : P.underlying t = some (.array n e)) (hc : P.cellsOf e = c) (hn : P.cellsOf t = n * c) {d : Nat} (h : KL P d e c) : KL P (d + 1) t (n * c) := by
  intro l hl hs
  have hm : ∃ ys, ((List.range n).mapM fun i => P.keyLits d e (((ints l).drop (i * P.cellsOf e)).take (P.cellsOf e))) = some ys := by
    refine mapM_all fun i hi => ?_
    have hi' := List.mem_range.1 hi
    rw [hc, ints_part]
    refine h _ ?_ (fun x hx => hs x (List.mem_of_mem_drop (List.mem_of_mem_take hx)))
    have : i * c + c ≤ n * c := by rw [← Nat.succ_mul]; exact Nat.mul_le_mul_right _ hi'
    simp [hl]
    omega
  obtain ⟨ys, hys⟩ := hm
  refine ⟨ys.flatten, ?_⟩
  unfold Program.keyLits
  rw [ht]
  simp only [ints_len, hl, hn, if_pos, hys, Option.map_some]

theorem KL_struct {P : Program} {t : TypeId} {fs : Array Field} {n : Nat} (ht : P.underlying t = some (.struct fs)) (hn : P.cellsOf t = n) (hb : fs.all (·.name != "_") = true) {d : Nat}
    (h : ∀ f ∈ fs.toList, ∃ c, P.cellsOf f.type = c ∧ f.offset + c ≤ n ∧ KL P d f.type c) : KL P (d + 1) t n := by
  intro l hl hs
  have hm : ∃ ys, (fs.toList.mapM fun f => P.keyLits d f.type (((ints l).drop f.offset).take (P.cellsOf f.type))) = some ys := by
    refine mapM_all fun f hf => ?_
    obtain ⟨c, hc, h1, h2⟩ := h f hf
    rw [hc, ints_part]
    refine h2 _ ?_ (fun x hx => hs x (List.mem_of_mem_drop (List.mem_of_mem_take hx)))
    simp [hl]
    omega
  obtain ⟨ys, hys⟩ := hm
  refine ⟨ys.flatten, ?_⟩
  unfold Program.keyLits
  rw [ht]
  simp only [ints_len, hl, hn, hb, and_self, if_pos, hys, Option.map_some]

set_option maxRecDepth 100000 in
theorem kl_pending (d : Nat) : KL Try.prog (d + 2) 52 2 := by
  refine KL_struct Try.underlying52 (by kernel_rfl) (by kernel_rfl) fun f hf => ?_
  simp only [List.mem_cons, List.not_mem_nil, or_false] at hf
  rcases hf with rfl | rfl
  · exact ⟨1, by kernel_rfl, by decide, KL_int Try.underlying3 d⟩
  · exact ⟨1, by kernel_rfl, by decide, KL_int Try.underlying3 d⟩

theorem kl_four (d : Nat) : KL Try.prog (d + 2) 43 4 := KL_array (n := 4) (c := 1) Try.underlying43 (by kernel_rfl) (by kernel_rfl) (KL_int Try.underlying3 d)
theorem kl_pend4 (d : Nat) : KL Try.prog (d + 3) 53 8 := KL_array (n := 4) (c := 2) Try.underlying53 (by kernel_rfl) (by kernel_rfl) (kl_pending d)

set_option maxRecDepth 100000 in
theorem kl_core (d : Nat) : KL Try.prog (d + 4) 55 14 := by
  refine KL_struct Try.underlying55 (by kernel_rfl) (by kernel_rfl) fun f hf => ?_
  simp only [List.mem_cons, List.not_mem_nil, or_false] at hf
  rcases hf with rfl | rfl | rfl | rfl
  · exact ⟨1, by kernel_rfl, by decide, KL_int Try.underlying3 (d + 2)⟩
  · exact ⟨4, by kernel_rfl, by decide, kl_four (d + 1)⟩
  · exact ⟨1, by kernel_rfl, by decide, KL_int Try.underlying3 (d + 2)⟩
  · exact ⟨8, by kernel_rfl, by decide, kl_pend4 d⟩

theorem kl_cores (d : Nat) : KL Try.prog (d + 5) 56 42 := KL_array (n := 3) (c := 14) Try.underlying56 (by kernel_rfl) (by kernel_rfl) (kl_core d)

set_option maxRecDepth 100000 in
theorem kl_state (d : Nat) : KL Try.prog (d + 6) 58 46 := by
  refine KL_struct Try.underlying58 (by kernel_rfl) (by kernel_rfl) fun f hf => ?_
  simp only [List.mem_cons, List.not_mem_nil, or_false] at hf
  rcases hf with rfl | rfl
  · exact ⟨42, by kernel_rfl, by decide, kl_cores d⟩
  · exact ⟨4, by kernel_rfl, by decide, kl_four (d + 3)⟩

/-- A state as a value. -/
def stV (s : St) : Value := .agg (ints (stL s)).toArray

set_option maxRecDepth 100000 in
theorem key_ex {s : St} (h : Shape s) : ∃ l, keyOf Try.prog 58 (stV s) = some l := by
  have hk : Try.prog.keyType 58 = true := by kernel_rfl
  have hc : Try.prog.cellsOf 58 = 46 := by kernel_rfl
  obtain ⟨d, hd⟩ : ∃ d, Try.prog.types.size + 1 = d + 6 := ⟨Try.prog.types.size - 5, by
    have : 5 ≤ Try.prog.types.size := of_decide_eq_true (by kernel_rfl)
    omega⟩
  obtain ⟨ls, hls⟩ := kl_state d (stL s) (stL_len h) (stL_small h)
  refine ⟨.string (keyBytes ls), ?_⟩
  unfold keyOf
  rw [Try.underlying58]
  simp only [hk, Value.formed, stV, Try.underlying58, hc, hd, Bool.true_and]
  rw [if_pos (by simp [ints_len, stL_len h])]
  simp only [Value.cells, List.toList_toArray, hls, Option.map_some]

theorem law7 : Keyed Try.prog 58 :=
  Keyed.of_law (deep_law_gate (by kernel_rfl) (of_decide_eq_true (by kernel_rfl)) (of_decide_eq_true (by kernel_rfl)) (by kernel_rfl) (by rw [Try.underlying58]))

/-- The key of a state. -/
noncomputable def klit (s : St) : Lit := (keyOf Try.prog 58 (stV s)).getD (.bool false)

set_option maxRecDepth 100000 in
theorem klit_of {s : St} (h : Shape s) : keyOf Try.prog 58 (stV s) = some (klit s) := by
  obtain ⟨l, hl⟩ := key_ex h
  unfold klit
  rw [hl]
  rfl

set_option maxRecDepth 100000 in
theorem klit_inj {s t : St} (hs : Shape s) (ht : Shape t) (h : klit s = klit t) : s = t := by
  have h1 := klit_of hs
  have h2 := klit_of ht
  rw [h] at h1
  have := law7.inj h1 h2
  unfold stV at this
  injection this with this
  exact stL_inj hs ht (ints_inj (List.toArray_inj this))

/-- Block b is the set of the states D. -/
def SetAt (w : World) (b : Nat) (D : List St) : Prop := w.ownsMap Try.prog 58 (unitElem (H := Unit)) b D.length (setOf (.agg []) (D.map klit))

set_option maxRecDepth 100000 in
theorem keys_lit {D : List St} (h : ∀ s ∈ D, Shape s) : ∀ x ∈ D.map klit, WideAt.IsKeyLit x := by
  intro x hx
  obtain ⟨s, hs, rfl⟩ := List.mem_map.1 hx
  exact law7.key (klit_of (h s hs))

set_option maxRecDepth 100000 in
theorem set_has {D : List St} (h : ∀ s ∈ D, Shape s) {t : St} (ht : Shape t) : Maps.has (setOf (H := Unit) (.agg []) (D.map klit)) (klit t) = decide (t ∈ D) := by
  rw [has_setOf _ _ _ (keys_lit h), Bool.eq_iff_iff]
  simp only [List.any_map, List.any_eq_true, Function.comp_apply, decide_eq_true_eq]
  constructor
  · rintro ⟨s, hs, he⟩
    have := klit_inj (h s hs) ht (WideAt.sameKey_eq he)
    exact this ▸ hs
  · intro hm
    exact ⟨t, hm, WideAt.sameKey_self (law7.key (klit_of ht))⟩

theorem unit_zero (w : World) : (zeroValue 78).run Try.prog w = .ok (.agg #[]) w := by kernel_rfl

set_option maxRecDepth 100000 in
/-- '_, ok := seen[t]'. -/
theorem look_walk {w : World} {ops : Array Oper} {rest : List Oper} {o : Oper} {a : Act} {Q : Exit → Act → World → Prop} (hg : o.guard = none) (m x : Operand) (hop : o.op = Op.lookup 79 m x true) (b : Nat) (D : List St) (hD : ∀ s ∈ D, Shape s) (t : St) (ht : Shape t)
    (hm : a.eval m = .map (some b)) (hx : a.eval x = .agg (ints (stL t)).toArray) (hown : SetAt w b D) (r : Bool) (hr : decide (t ∈ D) = r)
    (hK : wpList Try.prog ops Q rest (a.put o.dst (.tuple #[.agg #[], .bool r])) w) : wpList Try.prog ops Q (o :: rest) a w := by
  refine wpList_lookup_own_unit w hg m x _ hop 58 78 law7 Try.underlying79 (unit_zero w) b D.length (setOf (.agg []) (D.map klit)) hm hown (stV t) (klit t) hx (klit_of ht) ?_
  rw [set_has hD ht, hr]
  exact hK

set_option maxRecDepth 100000 in
theorem set_snoc {w : World} {b : Nat} {D : List St} {t : St} (h : w.ownsMap Try.prog 58 (unitElem (H := Unit)) b (D.length + 1) ((setOf (.agg []) (D.map klit)).put (klit t) (.agg []))) : SetAt w b (D ++ [t]) := by
  unfold SetAt
  rw [List.map_append, List.map_singleton, setOf_snoc, List.length_append, List.length_singleton]
  exact h

set_option maxRecDepth 100000 in
/-- 'seen[t] = struct{}{}'. -/
theorem upd_walk {w : World} {ops : Array Oper} {rest : List Oper} {o : Oper} {a : Act} {Q : Exit → Act → World → Prop} (hg : o.guard = none) (m x v : Operand) (hop : o.op = Op.mapUpdate 79 m x v) (b : Nat) (D : List St) (hn : D.length ≤ 100000000000) (t : St) (ht : Shape t)
    (hm : a.eval m = .map (some b)) (hx : a.eval x = .agg (ints (stL t)).toArray) (hv : a.eval v = .agg #[]) (hown : SetAt w b D)
    (hK : ∀ w', SetAt w' b (D ++ [t]) → w.grownBy w' (some b) → wpList Try.prog ops Q rest (a.put o.dst undef) w') : wpList Try.prog ops Q (o :: rest) a w := by
  refine wpList_mapUpdate_own w hg m x v _ hop 58 78 law7 Try.underlying79 unitElem b D.length (setOf (.agg []) (D.map klit)) hm hown (by unfold maxLen; omega) (stV t) (.agg #[]) (klit t) hx hv (klit_of ht) (.agg []) [] unitElem_mk ?_
  intro w' h1 h2
  exact hK w' (set_snoc h1) h2

set_option maxRecDepth 100000 in
/-- The same in a map literal. -/
theorem ins_walk {w : World} {ops : Array Oper} {rest : List Oper} {o : Oper} {a : Act} {Q : Exit → Act → World → Prop} (hg : o.guard = none) (m x v : Operand) (hop : o.op = Op.insert 79 m x v) (b : Nat) (t : St) (ht : Shape t)
    (hm : a.eval m = .map (some b)) (hx : a.eval x = .agg (ints (stL t)).toArray) (hv : a.eval v = .agg #[]) (hown : SetAt w b [])
    (hK : ∀ w', SetAt w' b [t] → w.grownBy w' (some b) → wpList Try.prog ops Q rest (a.put o.dst undef) w') : wpList Try.prog ops Q (o :: rest) a w := by
  have hown' : w.ownsMap Try.prog 58 (unitElem (H := Unit)) b 0 (setOf (.agg []) []) := hown
  obtain ⟨w', hrun, r1, r2⟩ := hown'.update law7 Try.underlying79 (by unfold maxLen; omega) (klit_of ht) (val := .agg #[]) (d := .agg []) (ps := []) unitElem_mk
  refine wpList_plain hg fun K' hK' => ?_
  unfold Oper.wp
  unfold stV at hrun
  simp [execOp, hop, hm, hx, hv, hrun, Result.andThen]
  exact hK' _ _ (hK w' (set_snoc (D := []) r1) r2)

theorem SetAt.kept {w w' : World} {b : Nat} {D : List St} {row : Option Nat} (h : SetAt w b D) (hg : w.grownBy w' row) (hne : some b ≠ row) : SetAt w' b D := World.ownsMap.kept h hg hne
theorem SetAt.below {w w' : World} {b : Nat} {D : List St} (h : SetAt w b D) (hb : Below w.heap.size w w') : SetAt w' b D := h.kept (gr_below hb none) (by simp)
theorem SetAt.lt {w : World} {b : Nat} {D : List St} (h : SetAt w b D) : b < w.heap.size := World.ownsMap.lt h

/-- A set's block is no row's. -/
theorem SetAt.ne {w : World} {b : Nat} {D : List St} (h : SetAt w b D) {base : Nat} {e : TypeId} {size : Nat} {v : Value} {n : Nat} {xs : List Value} (ho : w.ownsRow base e size v n xs) : v.ownBlock ≠ some b := by
  intro hv
  obtain ⟨es, clock, hb, _⟩ := h
  rcases ho.2 with ⟨rfl, _⟩ | ⟨g, cap, cur, rfl, _, hg, _⟩
  · cases hv
  · injection hv with hv
    subst hv
    rw [hb] at hg
    cases hg

/-! A scope whose jumps lower a number that no slot holds. -/

theorem least {J : Nat → Prop} : ∀ n, J n → ∃ k, J k ∧ ∀ m, J m → k ≤ m := by
  intro n
  induction n using Nat.strongRecOn with
  | _ n ih =>
    intro hn
    by_cases h : ∃ m, m < n ∧ J m
    · obtain ⟨m, hm, hj⟩ := h
      exact ih m hm hj
    · refine ⟨n, hn, fun m hm => ?_⟩
      by_cases hlt : m < n
      · exact absurd ⟨m, hlt, hm⟩ h
      · omega

open Classical in
theorem wp_scope_ghost {P : Program} {a : Act} {w : World} {Q : Exit → Act → World → Prop} {c body : Code} (l : Nat) (J : Nat → Act → World → Prop) (hf : findLabel c l = some (Code.seq Code.skip body))
    (pass : ∀ n a w, J n a w → body.wp P (Exit.jump l (fun a' w' => ∃ m, m < n ∧ J m a' w') Q) a w)
    (first : Hid (∀ n a w, J n a w → body.wp P (Exit.jump l (fun a' w' => ∃ m, J m a' w') Q) a w) → c.wp P (Exit.jump l (fun a' w' => ∃ m, J m a' w') Q) a w) : (Code.scope c).wp P Q a w := by
  have hl : ∀ a w, (∃ n, J n a w) → ∃ k, J k a w ∧ ∀ m, J m a w → k ≤ m := fun a w ⟨n, hn⟩ => least n hn
  refine wp_scope_jumps l (fun a w => ∃ n, J n a w) (fun a w => if h : ∃ n, J n a w then Classical.choose (hl a w h) else 0) hf (first (Lib.hid (fun n a w hj => Code.wp_mono ?_ (pass n a w hj)))) ?_
  · intro e a' w' hq
    cases e with
    | goto l' => exact ⟨hq.1, let ⟨m, _, h⟩ := hq.2; ⟨m, h⟩⟩
    | _ => exact hq
  · intro a w hJ
    have hs := Classical.choose_spec (hl a w hJ)
    refine wp_seq (wp_skip (Code.wp_mono ?_ (pass _ a w hs.1)))
    intro e a' w' hq
    cases e with
    | goto l' =>
      obtain ⟨h1, m, hm, hj⟩ := hq
      refine ⟨h1, ⟨m, hj⟩, ?_⟩
      rw [dif_pos ⟨m, hj⟩, dif_pos hJ]
      exact Nat.lt_of_le_of_lt ((Classical.choose_spec (hl a' w' ⟨m, hj⟩)).2 m hj) hm
    | _ => exact hq

#print axioms look_walk
#print axioms upd_walk
#print axioms wp_scope_ghost
end Go.Proofs.Ytgljgpllooehkaa
