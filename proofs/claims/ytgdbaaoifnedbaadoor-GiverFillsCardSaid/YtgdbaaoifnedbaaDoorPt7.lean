/-
  Layer 14 (port): the methods of a Trace that forwards to a Plain.
  Conditions: those that each theorem states.
-/
import Derived.Test.YtgdbaaoifnedbaaDoorPt5
import Derived.Test.YtgdbaaoifnedbaaDoorPt6
namespace Go.Proofs.YtgdbaaoifnedbaaDoor
open Go.ChangeShapes Go.WideShapes Go.ChangeAt Go.RowKit

/-- A Trace (block t) that forwards to a Plain (block p). -/
structure PtAt (w : World) (t p a b : Nat) (k v : Value) (V E K : List Int) (T : List Tch) : Prop where
  plain : PlainAt w p a b k V E K
  trace : TraceAt w t p v T

/-- The blocks that a call may change. -/
def own14 (t p a : Nat) (k v : Value) (g : Nat) : Prop := g = t ∨ g = p ∨ g = a ∨ k.ownBlock = some g ∨ v.ownBlock = some g

section
variable {t p a b : Nat} {k v : Value} {V E K : List Int} {T : List Tch} {w w' : World}

theorem PtAt.only {S : Nat → Prop} (r : PtAt w t p a b k v V E K T) (ho : Only S w w') (hS : ∀ g, own14 t p a k v g ∨ g = b → ¬ S g) : PtAt w' t p a b k v V E K T :=
  ⟨r.plain.only ho (hS _ (.inl (.inr (.inl rfl)))) (hS _ (.inl (.inr (.inr (.inl rfl))))) (hS _ (.inr rfl)) (fun g hg => hS g (.inl (.inr (.inr (.inr (.inl hg)))))), r.trace.only ho (hS _ (.inl (.inl rfl))) (fun g hg => hS g (.inl (.inr (.inr (.inr (.inr hg))))))⟩
theorem PtAt.below (r : PtAt w t p a b k v V E K T) (hb : Below w.heap.size w w') : PtAt w' t p a b k v V E K T := ⟨r.plain.below hb, r.trace.below hb⟩
theorem PtAt.tp (r : PtAt w t p a b k v V E K T) : t ≠ p := r.trace.row.ne r.plain.row (by decide)
theorem PtAt.ta (r : PtAt w t p a b k v V E K T) : t ≠ a := r.trace.row.ne r.plain.words (by decide)
theorem PtAt.tb (r : PtAt w t p a b k v V E K T) : t ≠ b := r.trace.row.ne r.plain.epochs (by decide)
theorem PtAt.kt (r : PtAt w t p a b k v V E K T) : k.ownBlock ≠ some t := own_type r.plain.kicks r.trace.row (by decide)
theorem PtAt.vp (r : PtAt w t p a b k v V E K T) : v.ownBlock ≠ some p := own_type r.trace.own r.plain.row (by decide)
theorem PtAt.va (r : PtAt w t p a b k v V E K T) : v.ownBlock ≠ some a := own_type r.trace.own r.plain.words (by decide)
theorem PtAt.vb (r : PtAt w t p a b k v V E K T) : v.ownBlock ≠ some b := own_type r.trace.own r.plain.epochs (by decide)
theorem PtAt.kv (r : PtAt w t p a b k v V E K T) {g : Nat} (hk : k.ownBlock = some g) : v.ownBlock ≠ some g := by
  rcases r.plain.kicks.2 with ⟨rfl, _⟩ | ⟨g', cap, cur, rfl, _, hg, _⟩
  · cases hk
  · simp only [Value.ownBlock, Option.some.injEq] at hk
    subst hk
    refine own_type (cs := cur.toList) (t := 3) r.trace.own ?_ (by decide)
    unfold Row
    rw [hg]
theorem PtAt.lt (r : PtAt w t p a b k v V E K T) : ∀ g, own14 t p a k v g ∨ g = b → g < w.heap.size := by
  rintro g (h | rfl)
  · rcases h with rfl | rfl | rfl | h | h
    · exact r.trace.row.lt
    · exact r.plain.row.lt
    · exact r.plain.words.lt
    · exact (r.plain.kb h).2
    · exact (r.trace.own.lt g h).2
  · exact r.plain.epochs.lt
end

/-- What a call leaves. -/
def PtP (t p a b : Nat) (k v : Value) (V E K : List Int) (T : List Tch) (ans : Value) (w : World) (e : Ending) (w' : World) : Prop :=
  ∃ k' v', e = .returned ans ∧ PtAt w' t p a b k' v' V E K T ∧ Only (own14 t p a k v) w w' ∧ (k'.ownBlock = k.ownBlock ∨ ∃ g, k'.ownBlock = some g ∧ w.heap.size ≤ g) ∧ (v'.ownBlock = v.ownBlock ∨ ∃ g, v'.ownBlock = some g ∧ w.heap.size ≤ g)

section
variable {t p a b : Nat} {k v : Value} {V E K : List Int} {T : List Tch}

theorem Only.then14 {S T : Nat → Prop} {a b c : World} (h : Only S a b) (k : Only T b c) (hT : ∀ g, g < a.heap.size → T g → S g) : Only S a c :=
  ⟨k.os.trans h.os, k.tape.trans h.tape, k.output.trans h.output, Nat.le_trans h.size k.size, fun i hi hn => (k.block i (Nat.lt_of_lt_of_le hi h.size) (fun e => hn (hT i hi e))).trans (h.block i hi hn)⟩

theorem boxes14 (w : World) (c0 c1 c2 : Value) (t0 t1 t2 : TypeId) : Row (((w.alloc (.cells #[c0] t0)).alloc (.cells #[c1] t1)).alloc (.cells #[c2] t2)) w.heap.size t0 [c0] ∧ Row (((w.alloc (.cells #[c0] t0)).alloc (.cells #[c1] t1)).alloc (.cells #[c2] t2)) (w.heap.size + 1) t1 [c1] ∧ Row (((w.alloc (.cells #[c0] t0)).alloc (.cells #[c1] t1)).alloc (.cells #[c2] t2)) (w.heap.size + 1 + 1) t2 [c2] ∧ Below w.heap.size w (((w.alloc (.cells #[c0] t0)).alloc (.cells #[c1] t1)).alloc (.cells #[c2] t2)) :=
  ⟨((Row.new w t0 #[c0]).below (below_al _ _)).below (below_al _ _), by have := (Row.new (w.alloc (.cells #[c0] t0)) t1 #[c1]).below (below_al _ (.cells #[c2] t2)); rwa [size_al] at this, by have := Row.new ((w.alloc (.cells #[c0] t0)).alloc (.cells #[c1] t1)) t2 #[c2]; rwa [size_al, size_al] at this, below_on (below_on (below_al _ _) (below_al _ _)) (below_al _ _)⟩
theorem boxes14_2 (w : World) (c0 c1 : Value) (t0 t1 : TypeId) : Row ((w.alloc (.cells #[c0] t0)).alloc (.cells #[c1] t1)) w.heap.size t0 [c0] ∧ Row ((w.alloc (.cells #[c0] t0)).alloc (.cells #[c1] t1)) (w.heap.size + 1) t1 [c1] ∧ Below w.heap.size w ((w.alloc (.cells #[c0] t0)).alloc (.cells #[c1] t1)) :=
  ⟨(Row.new w t0 #[c0]).below (below_al _ _), by have := Row.new (w.alloc (.cells #[c0] t0)) t1 #[c1]; rwa [size_al] at this, below_on (below_al _ _) (below_al _ _)⟩

set_option maxRecDepth 100000 in
set_option maxHeartbeats 2000000 in
theorem tload14_any (i : Int) (w : World) (r : PtAt w t p a b k v V E K T) (hl : T.length ≤ 65536) :
    Calls Tryd.prog 146 #[.pointer (some ⟨t, 0, none⟩), .int .i64 i] w (PtP t p a b k v V E K (T ++ [(1, i, nth14 V i)]) (.int .i64 (nth14 V i)) w) := by
  have hmf : ∀ (fn : Fn) (first cap : Array Value) (w : World), (Instr.makeFunc fn first cap).run Tryd.prog w = .ok (.func fn first cap) w := fun _ _ _ _ => rfl
  have R := Lib.hid r
  have HLT := Lib.hid r.lt
  have htl := r.trace.row.lt
  obtain ⟨b0, b1, b2, bB⟩ := boxes14 w (.pointer (some ⟨t, 0, none⟩)) (.int .i64 i) (.int .i64 0) 56 3 3
  have B0 := Lib.hid b0
  have B1 := Lib.hid b1
  have B2 := Lib.hid b2
  have BB := Lib.hid bB
  clear r b0 b1 b2 bB
  go_enter Tryd.func146, Tryd.ntmps146
  go_wp2_with fail
  refine (attempt14 153 _ _ (fun w' => Row w' (w.heap.size + 1 + 1) 3 [.int .i64 (nth14 V i)] ∧ Only (· = w.heap.size + 1 + 1) (((w.alloc (.cells #[.pointer (some ⟨t, 0, none⟩)] 56)).alloc (.cells #[.int .i64 i] 3)).alloc (.cells #[.int .i64 0] 3)) w') (fun W => by kernel_rfl) (loadC14 i 0 (B0.out.cell 0) ((R.out.trace.below BB.out).row.cell 0) (B1.out.cell 0) (R.out.plain.below BB.out) B2.out)).mono ?_
  rintro e w2 ⟨rfl, hx2, o2⟩
  have z2 := B0.out.only o2 (by omega)
  have y2 := B1.out.only o2 (by omega)
  have T2 := Lib.hid ((R.out.trace.below BB.out).only o2 (by omega) (fun g hg e => by have := HLT.out g (.inl (.inr (.inr (.inr (.inr hg))))); omega))
  have q0 := z2.cell 0
  have q1 := y2.cell 0
  have q2 := hx2.cell 0
  simp only [List.getElem?_cons_zero] at q0 q1 q2
  have X2 := Lib.hid hx2
  have O2 := Lib.hid o2
  clear hx2 o2 z2 y2
  go_wp2_with fail
  refine (record14_any 1 i (nth14 V i) w2 T2.out hl).mono ?_
  rintro e w3 ⟨v3, rfl, t3, o3, hv3⟩
  have x3 := X2.out.only o3 (fun e => by rcases e with e | e; omega; have := HLT.out _ (.inl (.inr (.inr (.inr (.inr e))))); omega)
  have q3 := x3.cell 0
  simp only [List.getElem?_cons_zero] at q3
  have T3 := Lib.hid t3
  have O3 := Lib.hid o3
  clear t3 o3 x3
  go_wp2
  go_ret
  have hs2 := Nat.le_trans BB.out.size O2.out.size
  refine ⟨k, v3, rfl, ⟨((R.out.plain.below BB.out).only O2.out (by have := HLT.out p (.inl (.inr (.inl rfl))); omega) (by have := HLT.out a (.inl (.inr (.inr (.inl rfl)))); omega) (by have := HLT.out b (.inr rfl); omega) (fun g hg e => by have := HLT.out g (.inl (.inr (.inr (.inr (.inl hg))))); omega)).only O3.out ?_ ?_ ?_ ?_, T3.out⟩, ?_, .inl rfl, hv3.imp id (fun ⟨g, h1, h2⟩ => ⟨g, h1, by omega⟩)⟩
  · exact fun e => by rcases e with e | e; exact R.out.tp e.symm; exact R.out.vp e
  · exact fun e => by rcases e with e | e; exact R.out.ta e.symm; exact R.out.va e
  · exact fun e => by rcases e with e | e; exact R.out.tb e.symm; exact R.out.vb e
  · exact fun g hg e => by rcases e with rfl | e; exact R.out.kt hg; exact R.out.kv hg e
  · exact ((Only.of_below BB.out _).then14 O2.out (fun g hg e => by omega)).then14 O3.out (fun g hg e => by rcases e with e | e; exact .inl e; exact .inr (.inr (.inr (.inr e))))

set_option maxRecDepth 100000 in
set_option maxHeartbeats 2000000 in
theorem tepoch14_any (i : Int) (w : World) (r : PtAt w t p a b k v V E K T) (hl : T.length ≤ 65536) :
    Calls Tryd.prog 143 #[.pointer (some ⟨t, 0, none⟩), .int .i64 i] w (PtP t p a b k v V E K (T ++ [(4, i, nth14 E i)]) (.int .i64 (nth14 E i)) w) := by
  have hmf : ∀ (fn : Fn) (first cap : Array Value) (w : World), (Instr.makeFunc fn first cap).run Tryd.prog w = .ok (.func fn first cap) w := fun _ _ _ _ => rfl
  have R := Lib.hid r
  have HLT := Lib.hid r.lt
  have htl := r.trace.row.lt
  obtain ⟨b0, b1, b2, bB⟩ := boxes14 w (.pointer (some ⟨t, 0, none⟩)) (.int .i64 i) (.int .i64 0) 56 3 3
  have B0 := Lib.hid b0
  have B1 := Lib.hid b1
  have B2 := Lib.hid b2
  have BB := Lib.hid bB
  clear r b0 b1 b2 bB
  go_enter Tryd.func143, Tryd.ntmps143
  go_wp2_with fail
  refine (attempt14 149 _ _ (fun w' => Row w' (w.heap.size + 1 + 1) 3 [.int .i64 (nth14 E i)] ∧ Only (· = w.heap.size + 1 + 1) (((w.alloc (.cells #[.pointer (some ⟨t, 0, none⟩)] 56)).alloc (.cells #[.int .i64 i] 3)).alloc (.cells #[.int .i64 0] 3)) w') (fun W => by kernel_rfl) (epochC14 i 0 (B0.out.cell 0) ((R.out.trace.below BB.out).row.cell 0) (B1.out.cell 0) (R.out.plain.below BB.out) B2.out)).mono ?_
  rintro e w2 ⟨rfl, hx2, o2⟩
  have z2 := B0.out.only o2 (by omega)
  have y2 := B1.out.only o2 (by omega)
  have T2 := Lib.hid ((R.out.trace.below BB.out).only o2 (by omega) (fun g hg e => by have := HLT.out g (.inl (.inr (.inr (.inr (.inr hg))))); omega))
  have q0 := z2.cell 0
  have q1 := y2.cell 0
  have q2 := hx2.cell 0
  simp only [List.getElem?_cons_zero] at q0 q1 q2
  have X2 := Lib.hid hx2
  have O2 := Lib.hid o2
  clear hx2 o2 z2 y2
  go_wp2_with fail
  refine (record14_any 4 i (nth14 E i) w2 T2.out hl).mono ?_
  rintro e w3 ⟨v3, rfl, t3, o3, hv3⟩
  have x3 := X2.out.only o3 (fun e => by rcases e with e | e; omega; have := HLT.out _ (.inl (.inr (.inr (.inr (.inr e))))); omega)
  have q3 := x3.cell 0
  simp only [List.getElem?_cons_zero] at q3
  have T3 := Lib.hid t3
  have O3 := Lib.hid o3
  clear t3 o3 x3
  go_wp2
  go_ret
  have hs2 := Nat.le_trans BB.out.size O2.out.size
  refine ⟨k, v3, rfl, ⟨((R.out.plain.below BB.out).only O2.out (by have := HLT.out p (.inl (.inr (.inl rfl))); omega) (by have := HLT.out a (.inl (.inr (.inr (.inl rfl)))); omega) (by have := HLT.out b (.inr rfl); omega) (fun g hg e => by have := HLT.out g (.inl (.inr (.inr (.inr (.inl hg))))); omega)).only O3.out ?_ ?_ ?_ ?_, T3.out⟩, ?_, .inl rfl, hv3.imp id (fun ⟨g, h1, h2⟩ => ⟨g, h1, by omega⟩)⟩
  · exact fun e => by rcases e with e | e; exact R.out.tp e.symm; exact R.out.vp e
  · exact fun e => by rcases e with e | e; exact R.out.ta e.symm; exact R.out.va e
  · exact fun e => by rcases e with e | e; exact R.out.tb e.symm; exact R.out.vb e
  · exact fun g hg e => by rcases e with rfl | e; exact R.out.kt hg; exact R.out.kv hg e
  · exact ((Only.of_below BB.out _).then14 O2.out (fun g hg e => by omega)).then14 O3.out (fun g hg e => by rcases e with e | e; exact .inl e; exact .inr (.inr (.inr (.inr e))))

end

#print axioms tload14_any
#print axioms tepoch14_any
end Go.Proofs.YtgdbaaoifnedbaaDoor
