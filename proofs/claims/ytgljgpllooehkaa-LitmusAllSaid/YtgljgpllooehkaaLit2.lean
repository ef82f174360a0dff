/-
  Layer 7 (litmus): drain.
  Conditions: those that each theorem states.
-/
import Derived.Test.YtgljgpllooehkaaLit
import Derived.Test.YtgljgpllooehkaaTwo
import Derived.RegionTactic
import Derived.Deep.RegionLaw
namespace Go.Proofs.Ytgljgpllooehkaa
open Go.ChangeShapes Go.WideShapes Go.ChangeAt Go.RowKit

theorem row_cell {w : World} {b : Nat} {t : TypeId} {l : List Int} (r : Row w b t (ints l)) {k : Nat} {x : Int} (h : l[k]? = some x) : w.cell? ⟨b, k, none⟩ = some (.int .i64 x) := by
  rw [r.cell k]; exact ints_some h

theorem row_put {w : World} {b : Nat} {t : TypeId} {l : List Int} (r : Row w b t (ints l)) (k : Nat) (x : Int) : Row (w.setCell ⟨b, k, none⟩ (.int .i64 x)) b t (ints (l.set k x)) := by
  rw [ints_set]; exact r.put k _

theorem Row.drew {w : World} {g : Nat} {t : TypeId} {cs : List Value} (h : Row w g t cs) : Row w.drew g t cs := h

theorem one_put {a w : World} {b : Nat} (h : Only (· = b) a w) (k : Nat) (u : Value) : Only (· = b) a (w.setCell ⟨b, k, none⟩ u) := h.setCell (p := ⟨b, k, none⟩) (.inl rfl) u

/-- A copy of elements of two cells into a block known whole. -/
theorem step_copy2 {P : Program} {ops : Array Oper} {o : Oper} {a : Act} {w : World} {K : Act → World → Prop} {Q : Exit → Act → World → Prop} {E : Prop} (hgd : o.guard = none) (d s : Operand) (dT : TypeId)
    (ho : o.op = .call { callee := .builtin .copy, args := #[d, s], argTypes := #[dT, dT] }) (elem : TypeId) (hu : P.underlying dT = some (.slice elem)) (hsz : (P.info? elem).map (·.size) = some 2)
    (g off dLen dCap so sLen sCap : Nat) (hd : a.eval d = .slice (some ⟨g, off, none⟩) dLen dCap) (hs : a.eval s = .slice (some ⟨g, so, none⟩) sLen sCap)
    (cur : List Value) (t : TypeId) (hg : Row w g t cur) (cs : List Value) (n : Nat) (hm : Nat.min sLen dLen = n) (hn : cs.length = n * 2) (hsrc : ∀ j v, cs[j]? = some v → cur[so + j]? = some v)
    (hfit : off + cs.length ≤ cur.length) (h1 : ∀ v ∈ cs, v.oneCell' = true)
    (h : ∀ w', Hid (Row w' g t (cur.take off ++ cs ++ cur.drop (off + cs.length))) → Hid (Only (· = g) w w') → K (a.put o.dst (goInt n)) w') :
    if Region.wanted o (yielded ops a.tmps) = true then Oper.wp P o a w K Q else E := by
  have hw : Region.wanted o (yielded ops a.tmps) = true := by simp [Region.wanted, hgd]
  rw [if_pos hw]
  have hsrc' : ∀ j v, cs[j]? = some v → w.cell? ((⟨g, so, none⟩ : Addr).add j) = some v := fun j v hj => by
    rw [Addr.add_lit, hg.cell]; exact hsrc j v hj
  have hl := run_loadCells_list (P := P) w ⟨g, so, none⟩ cs hsrc'
  have hst := run_storeCells_at P g off t cs 0 cur.toArray w hg (by simpa using hfit) h1
  have hrun : (Builtin.copy_ #[dT, dT] o.type #[.slice (some ⟨g, off, none⟩) dLen dCap, .slice (some ⟨g, so, none⟩) sLen sCap]).run P w = .ok (goInt n) (w.setRow g (cur.take off ++ cs ++ cur.drop (off + cs.length)).toArray) := by
    cases hq : P.info? elem with
    | none => simp [hq] at hsz
    | some i =>
      have hi : i.size = 2 := by simpa [hq] using hsz
      simp only [Nat.add_zero] at hst
      simp [Builtin.copy_, run_underlying hu, Builtin.lenOf, Builtin.firstCells, sizeOf, typeInfo, hq, hi, hm, ← hn, hl, hst]
  unfold Oper.wp
  simp only [execOp, ho, resolve, invoke, builtin, List.map_toArray, List.map_cons, List.map_nil, hd, hs]
  simp [hrun, Result.andThen]
  rw [← List.append_assoc]
  refine h _ (Lib.hid ?_) (Lib.hid ?_)
  · exact setRow_heap w g _ _ t _ hg
  · have := below_setRow (B := 0) (Below.refl 0 w) (Nat.zero_le g) (cur.take off ++ cs ++ cur.drop (off + cs.length)).toArray
    refine ⟨this.os, this.tape, this.output, this.size, fun k hk hne => ?_⟩
    unfold World.setRow
    rw [Array.getElem?_modify, if_neg (fun e => hne e.symm)]

/-- The list behind a drain. -/
def shift (o : Nat) (l : List Int) : List Int := l.take (o + 6) ++ (l.drop (o + 8)).take 6 ++ l.drop (o + 12)
def drainL (o m : Nat) (a x : Int) (l : List Int) : List Int := ((((shift o (l.set (42 + a.toNat) x)).set (o + 5) (m : Int)).set (o + 6 + m * 2) 0).set (o + 6 + m * 2 + 1) 0)

theorem shift_len {o : Nat} {l : List Int} (hl : l.length = 46) (ho : o ≤ 28) : (shift o l).length = 46 := by
  simp [shift, hl]; omega

theorem shift_ints (o : Nat) (l : List Int) (ho : o ≤ 28) (hl : l.length = 46) : (ints l).take (o + 6) ++ ints ((l.drop (o + 8)).take 6) ++ (ints l).drop (o + 6 + (ints ((l.drop (o + 8)).take 6)).length) = ints (shift o l) := by
  have h6 : ((l.drop (o + 8)).take 6).length = 6 := by simp [hl]; omega
  rw [ints_len, h6]
  simp [shift, ints]

theorem shift_low {o k : Nat} {l : List Int} (h : k < o + 6) (hl : l.length = 46) (ho : o ≤ 28) : (shift o l)[k]? = l[k]? := by
  unfold shift
  rw [List.append_assoc, List.getElem?_append_left (by simp [hl]; omega), List.getElem?_take, if_pos h]

theorem pending_size : (Try.prog.info? 52).map (·.size) = some 2 := by kernel_rfl

set_option maxRecDepth 100000 in
set_option maxHeartbeats 1000000 in
theorem drain_l (b i : Nat) (hi : i < 3) (l : List Int) (hl : l.length = 46) (a x : Int) (m : Nat) (hn : l[i * 14 + 5]? = some ((m : Int) + 1)) (ha : l[i * 14 + 6]? = some a) (hx : l[i * 14 + 7]? = some x)
    (ha0 : 0 ≤ a) (ha3 : a < 4) (hm : m < 4) (w : World) (r : Row w b 58 (ints l)) :
    Calls Try.prog 45 #[ptr b, .int .i64 (i : Int)] w fun e w' => e = .returned (.tuple #[]) ∧ Row w' b 58 (ints (drainL (i * 14) m a x l)) ∧ Only (· = b) w w' := by
  have c5 := row_cell r hn
  have c6 := row_cell r ha
  have c7 := row_cell r hx
  have i0 : (0 : Int) ≤ (i : Int) := by omega
  have i3 : (i : Int) < 3 := by omega
  obtain ⟨y, hy⟩ : ∃ y, l[42 + a.toNat]? = some y := ⟨_, List.getElem?_eq_getElem (by omega)⟩
  have cm := row_cell r hy
  have f1 := r.soft (42 + a.toNat)
  have hbl := r.lt
  have hbn : b ≠ w.heap.size := by omega
  have HN := Lib.hid hn
  have HI := Lib.hid hi
  clear hn ha hx hy
  unfold ptr
  go_enter Try.func45, Try.ntmps45
  go_wp2
  go_region
  go_wp2
  have r1 : Row ((w.setCell ⟨b, 42 + a.toNat, none⟩ (.int .i64 x)).alloc (.cells #[.int .i64 a, .int .i64 x] 52)).drew b 58 (ints (l.set (42 + a.toNat) x)) :=
    (row_put r _ x).below (below_al _ _).drew
  have o1 : Only (· = b) w ((w.setCell ⟨b, 42 + a.toNat, none⟩ (.int .i64 x)).alloc (.cells #[.int .i64 a, .int .i64 x] 52)).drew :=
    ((one_put (Only.refl _ w) _ _).alloc _).drew
  generalize ((w.setCell ⟨b, 42 + a.toNat, none⟩ (.int .i64 x)).alloc (.cells #[.int .i64 a, .int .i64 x] 52)).drew = w1 at r1 o1 ⊢
  obtain ⟨l1, e1⟩ : ∃ l1, l.set (42 + a.toNat) x = l1 := ⟨_, rfl⟩
  have hl1 : l1.length = 46 := by rw [← e1, List.length_set]; exact hl
  have hn1 : l1[i * 14 + 5]? = some ((m : Int) + 1) := by rw [← e1, List.getElem?_set_ne (by have := HI.out; omega)]; exact HN.out
  rw [e1] at r1
  have R1 := Lib.hid r1
  have O1 := Lib.hid o1
  have E1 := Lib.hid e1
  have L1 := Lib.hid hl1
  have N1 := Lib.hid hn1
  have K1 : Hid ((ints ((l1.drop (i * 14 + 8)).take 6)).length = 3 * 2) := Lib.hid (by rw [ints_len]; simp [hl1]; omega)
  have K2 : Hid (∀ j v, (ints ((l1.drop (i * 14 + 8)).take 6))[j]? = some v → (ints l1)[i * 14 + 6 + 2 + j]? = some v) := Lib.hid (fun j v hj => by
    simp only [ints, List.getElem?_map, List.getElem?_take, List.getElem?_drop] at hj ⊢
    split at hj
    · exact hj
    · simp at hj)
  have K3 : Hid (i * 14 + 6 + (ints ((l1.drop (i * 14 + 8)).take 6)).length ≤ (ints l1).length) := Lib.hid (by rw [K1.out, ints_len, hl1]; omega)
  clear r1 o1 e1 hl1 hn1 c5 c6 c7 cm f1
  go_region_law (refine step_copy2 rfl (.tmp 27) (.tmp 31) 107 rfl 52 Try.underlying107 pending_size b (i * 14 + 6) 4 4 (i * 14 + 6 + 2) 3 3 (by kernel_rfl) (by kernel_rfl) (ints l1) 58 R1.out.drew (ints ((l1.drop (i * 14 + 8)).take 6)) 3 rfl K1.out K2.out K3.out (ints_one _) ?_; intro w2 r2 o2)
  have HI' := HI.out
  have r2' : Row w2 b 58 (ints (shift (i * 14) l1)) := by rw [← shift_ints (i * 14) l1 (by omega) L1.out]; exact r2.out
  have n2 : (shift (i * 14) l1)[i * 14 + 5]? = some ((m : Int) + 1) := by rw [shift_low (by omega) L1.out (by omega)]; exact N1.out
  have c5 := row_cell r2' n2
  have f5 := r2'.soft (i * 14 + 5)
  have R2 := Lib.hid r2'
  clear r2 r2' n2
  have ew : IntKind.i64.wrap ((m : Int) + 1 - 1) = (m : Int) := by rw [IntWalk.i64_in _ (by omega)]; omega
  go_wp2
  have r3 := row_put R2.out (i * 14 + 5) (m : Int)
  have o3 := one_put ((O1.out.drew).trans o2.out) (i * 14 + 5) (.int .i64 (m : Int))
  generalize w2.setCell ⟨b, i * 14 + 5, none⟩ (.int .i64 (m : Int)) = w3 at r3 o3 ⊢
  obtain ⟨l3, e3⟩ : ∃ l3, (shift (i * 14) l1).set (i * 14 + 5) (m : Int) = l3 := ⟨_, rfl⟩
  rw [e3] at r3
  have hl3 : l3.length = 46 := by rw [← e3, List.length_set]; exact shift_len L1.out (by omega)
  have d5 := row_cell r3 (k := i * 14 + 5) (x := (m : Int)) (by rw [← e3, List.getElem?_set_self (by rw [shift_len L1.out (by omega)]; omega)])
  have d6 := row_cell r3 (List.getElem?_eq_getElem (show i * 14 + 6 + m * 2 < l3.length by omega))
  have d7 := row_cell r3 (List.getElem?_eq_getElem (show i * 14 + 6 + m * 2 + 1 < l3.length by omega))
  generalize l3[i * 14 + 6 + m * 2] = y6 at d6
  generalize l3[i * 14 + 6 + m * 2 + 1] = y7 at d7
  have g6 := r3.soft (i * 14 + 6 + m * 2)
  have g7 := r3.soft (i * 14 + 6 + m * 2 + 1)
  have R3 := Lib.hid r3
  have O3 := Lib.hid o3
  have E3 := Lib.hid e3
  clear r3 o3 e3 c5 f5 ew hl3 o2
  go_region
  go_end0
  have e4 : drainL (i * 14) m a x l = (l3.set (i * 14 + 6 + m * 2) 0).set (i * 14 + 6 + m * 2 + 1) 0 := by
    unfold drainL; rw [E1.out, E3.out]
  refine ⟨rfl, ?_, ?_⟩
  · rw [e4]
    exact (row_put (row_put R3.out _ 0) _ 0).drew
  · exact (one_put (one_put O3.out _ _) _ _).drew

#print axioms drain_l

end Go.Proofs.Ytgljgpllooehkaa
