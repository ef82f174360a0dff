/-
  Words for memory, second part: what a call may have changed, as a set of blocks (Only); pointers; a second quiet region.
  Conditions: those that each theorem states.
-/
import Derived.Test.YtikjokhpombjjaaDoorMem
import Derived.Deep.QuietTactic
import Derived.BigQuiet
namespace Go.Proofs.YtikjokhpombjjaaDoor
open Go.ChangeShapes Go.WideShapes Go.ChangeAt Go.RowKit

/-- Of what was there, only the blocks in S may have changed. -/
structure Only (S : Nat → Prop) (w w' : World) : Prop where
  os : w'.os = w.os
  tape : w'.tape = w.tape
  output : w'.output = w.output
  size : w.heap.size ≤ w'.heap.size
  block : ∀ k, k < w.heap.size → ¬ S k → w'.heap[k]? = w.heap[k]?

theorem Only.refl (S : Nat → Prop) (w : World) : Only S w w := ⟨rfl, rfl, rfl, Nat.le_refl _, fun _ _ _ => rfl⟩

theorem Only.trans {S : Nat → Prop} {a b c : World} (h : Only S a b) (k : Only S b c) : Only S a c :=
  ⟨k.os.trans h.os, k.tape.trans h.tape, k.output.trans h.output, Nat.le_trans h.size k.size, fun i hi hn => (k.block i (Nat.lt_of_lt_of_le hi h.size) hn).trans (h.block i hi hn)⟩

theorem Only.mono {S T : Nat → Prop} {w w' : World} (h : Only S w w') (hST : ∀ b, b < w.heap.size → S b → T b) : Only T w w' :=
  ⟨h.os, h.tape, h.output, h.size, fun k hk hn => h.block k hk (fun hs => hn (hST k hk hs))⟩

theorem Only.of_below {w w' : World} (h : Below w.heap.size w w') (S : Nat → Prop) : Only S w w' := ⟨h.os, h.tape, h.output, h.size, fun k hk _ => h.block k hk⟩

theorem Only.of_gr {w w' : World} {g : Nat} (h : w.grownBy w' (some g)) {S : Nat → Prop} (hS : S g) : Only S w w' :=
  ⟨h.os, h.tape, h.output, h.size, fun k hk hn => h.block k hk (fun e => hn (by injection e with e; rw [e]; exact hS))⟩

theorem Only.then_below {S : Nat → Prop} {a b c : World} (h : Only S a b) (k : Below b.heap.size b c) : Only S a c := h.trans (Only.of_below k S)

theorem Only.alloc {S : Nat → Prop} {a w : World} (h : Only S a w) (o : Obj) : Only S a (w.alloc o) :=
  ⟨h.os, h.tape, h.output, Nat.le_trans h.size (by simp), fun i hi hn => (Below.heap_alloc w o i (Nat.lt_of_lt_of_le hi h.size)).trans (h.block i hi hn)⟩

theorem Only.setCell {S : Nat → Prop} {a w : World} (h : Only S a w) {p : Addr} (hp : S p.block ∨ a.heap.size ≤ p.block) (u : Value) : Only S a (w.setCell p u) :=
  ⟨h.os, h.tape, h.output, by simpa [World.setCell] using h.size, fun k hk hn => (Below.heap_setCell w p u k (by
    rintro rfl
    rcases hp with hp | hp
    · exact hn hp
    · omega)).trans (h.block k hk hn)⟩

theorem Only.drewN {S : Nat → Prop} {a w : World} (h : Only S a w) (n : Nat) : Only S a (w.drewN n) := ⟨h.os, h.tape, h.output, h.size, h.block⟩
theorem Only.drew {S : Nat → Prop} {a w : World} (h : Only S a w) : Only S a w.drew := ⟨h.os, h.tape, h.output, h.size, h.block⟩

theorem Only.below {S : Nat → Prop} {B : Nat} {a b c : World} (h : Below B a b) (k : Only S b c) (hB : B ≤ b.heap.size) (hS : ∀ g, g < B → ¬ S g) : Below B a c :=
  h.trans ⟨k.os, k.tape, k.output, k.size, fun i hi => k.block i (by omega) (hS i hi)⟩

theorem Row.only {S : Nat → Prop} {w w' : World} {g : Nat} {t : TypeId} {cs : List Value} (h : Row w g t cs) (ho : Only S w w') (hn : ¬ S g) : Row w' g t cs := (ho.block g h.lt hn).trans h

theorem Row.below {w w' : World} {g : Nat} {t : TypeId} {cs : List Value} (h : Row w g t cs) (hb : Below w.heap.size w w') : Row w' g t cs := (hb.block g h.lt).trans h

theorem Row.drewN {w : World} {g : Nat} {t : TypeId} {cs : List Value} (h : Row w g t cs) (n : Nat) : Row (w.drewN n) g t cs := h

theorem Lies.only {S : Nat → Prop} {w w' : World} {P : Nat → Prop} {v : Value} {xs : List Value} (h : Lies w P v xs) (ho : Only S w w') (hr : ∀ g, S g → ¬ P g) : Lies w' P v xs := by
  obtain ⟨A, c, rfl, hc⟩ := h
  refine ⟨A, c, rfl, fun hp => ?_⟩
  obtain ⟨g, o, hA, hP, hlt, hcell⟩ := hc hp
  refine ⟨g, o, hA, hP, Nat.lt_of_lt_of_le hlt ho.size, fun j u hu => ?_⟩
  rw [World.cell?_of_block (w := w) (ho.block g hlt (fun e => hr g e hP))]
  exact hcell j u hu

theorem below_al (w : World) (o : Obj) : Below w.heap.size w (w.alloc o) := (Below.refl _ _).alloc (Nat.le_refl _) o

theorem below_q (w : World) (m : Nat) : Below w.heap.size w (w.drewN m) := below_dn (Below.refl _ _) m

theorem cell_far {w : World} {p a : Addr} (h : a.block ≠ p.block) (u : Value) : (w.setCell p u).cell? a = w.cell? a := World.cell?_of_block (w := w) (Below.heap_setCell w p u a.block h)

/-- The pointer to block g. -/
def ptr (g : Nat) : Value := .pointer (some ⟨g, 0, none⟩)

theorem int_info : (Tryd.prog.info? 3).map (fun i => (i.zero, i.size, i.bytes)) = some (some (.int .i64 0), 1, 8) := by kernel_rfl
theorem int_size : (Tryd.prog.info? 3).map (·.size) = some 1 := by kernel_rfl

/-- A slice of integers from k on. -/
theorem slice_from (h N k : Nat) (hk : k ≤ N) : ∃ A, (∀ W, (Instr.slice 36 (.slice (some ⟨h, 0, none⟩) N N) (some (.int .i64 (k : Int))) none none).run Tryd.prog W = .ok (.slice A (N - k) (N - k)) W) ∧ (k < N → A = some ⟨h, k, none⟩) := by
  have hz : ∀ W, (sizeOf (Tryd.prog.elem 36)).run Tryd.prog W = .ok 1 W := fun W => by
    have : Tryd.prog.elem 36 = 3 := by kernel_rfl
    rw [this]
    obtain ⟨i, hi, hs⟩ := Option.map_eq_some_iff.1 int_size
    simp [sizeOf, typeInfo, hi, hs]
  refine ⟨if N = k then some ⟨h, 0, none⟩ else some ⟨h, k, none⟩, fun W => ?_, fun hm => by rw [if_neg (by omega)]⟩
  rw [run_slice_l (P := Tryd.prog) (w := W) 36 (some ⟨h, 0, none⟩) N N (by kernel_rfl) .i64 (k : Int) (by omega) (by omega), hz]
  have e1 : ((k : Int)).toNat = k := by omega
  simp only [Result.andThen, sliced, e1, Option.map_some, Nat.mul_one, Addr.add_lit, Nat.zero_add]

theorem splice_all (cur cs : List Value) (h : cs.length = cur.length) : splice cur 0 cs = cs := by
  simp [splice, h]

#print axioms Only.below
#print axioms Lies.only
end Go.Proofs.YtikjokhpombjjaaDoor
