/-
  Two buses side by side (TwoBus); parts of a slice of records.
  Conditions: those that each theorem states.
-/
import Derived.Test.YtoiaojpomhjlaaaBus13
import Derived.Test.YtoiaojpomhjlaaaBus14
import Derived.Test.YtoiaojpomhjlaaaBus15
import Derived.Test.YtoiaojpomhjlaaaArgs
namespace Go.Proofs.Ytoiaojpomhjlaaa
open Go.ChangeShapes Go.WideShapes Go.ChangeAt Go.RowKit

/-- Two buses, both newer than w, apart from each other. -/
structure TwoBus (w wr : World) (L L2 : Lay) (N C : Nat) (l l2 : List Int) (qs qs2 : List (List (Int × Int))) : Prop where
  one : OnBus w wr L N l qs
  two : OnBus w wr L2 N l2 qs2
  dis : ∀ b, L.fp C b → ¬ L2.fp C b
  len : qs.length = C
  len2 : qs2.length = C

theorem TwoBus.below {w wr w' : World} {L L2 : Lay} {N C : Nat} {l l2 : List Int} {qs qs2 : List (List (Int × Int))} (m : TwoBus w wr L L2 N C l l2 qs qs2) (hb : Below wr.heap.size wr w') : TwoBus w w' L L2 N C l l2 qs qs2 :=
  ⟨m.one.below hb, m.two.below hb, m.dis, m.len, m.len2⟩

theorem TwoBus.left {w wr w2 : World} {L L2 : Lay} {N C : Nat} {l l2 l' : List Int} {qs qs2 qs' : List (List (Int × Int))} {a : Value} {e : Ending} (m : TwoBus w wr L L2 N C l l2 qs qs2) (hl : qs'.length = qs.length) (h : BusP L N l' qs' a wr e w2) :
    ∃ f, e = .returned a ∧ TwoBus w w2 (L.up f) L2 N C l' l2 qs' qs2 ∧ Only (L.fp C) wr w2 := by
  obtain ⟨f, he, hm, ho, hx⟩ := m.one.step hl h
  have hC := m.len
  rw [hC] at ho hx
  refine ⟨f, he, ⟨hm, ⟨m.two.bus.only ho (fun b hb h => m.dis b h (by rw [m.len2] at hb; exact hb)), m.two.new, hm.bel⟩, fun b hb h2 => ?_, hl.trans m.len, m.len2⟩, ho⟩
  rcases hx b hb with h1 | h1
  · exact m.dis b h1 h2
  · have := m.two.bus.fp_lt (by rw [m.len2]; exact h2)
    omega

theorem TwoBus.swap {w wr : World} {L L2 : Lay} {N C : Nat} {l l2 : List Int} {qs qs2 : List (List (Int × Int))} (m : TwoBus w wr L L2 N C l l2 qs qs2) : TwoBus w wr L2 L N C l2 l qs2 qs :=
  ⟨m.two, m.one, fun b h h2 => m.dis b h2 h, m.len2, m.len⟩

/-- The first h records of a slice. -/
theorem Recs.first {w : World} {n : Nat} {A : Option Addr} {m c h : Nat} {R : List (List Int)} (hR : Recs w n (.slice A m c) R) (hh : h ≤ m) : Recs w n (.slice A h c) (R.take h) := by
  obtain ⟨A', c', hv, hA⟩ := hR
  injection hv with e1 e2 e3
  subst e1 e3
  have hl : (R.take h).length = h := by simp; omega
  refine ⟨A, c, by rw [hl], fun hp => ?_⟩
  obtain ⟨ad, rfl, hlt, hc⟩ := hA (by omega)
  refine ⟨ad, rfl, hlt, fun k zs hk => hc k zs ?_⟩
  rw [List.getElem?_take] at hk
  split at hk
  · exact hk
  · cases hk

/-- The records of a slice from h on. -/
theorem Recs.rest {w : World} {n : Nat} {A : Option Addr} {m c h : Nat} {R : List (List Int)} (hR : Recs w n (.slice A m c) R) (hh : h ≤ m) (hc : m ≤ c) : Recs w n (.slice (if c = h then A else A.map (·.add (h * n))) (m - h) (c - h)) (R.drop h) := by
  obtain ⟨A', c', hv, hA⟩ := hR
  injection hv with e1 e2 e3
  subst e1 e3
  have hl : (R.drop h).length = m - h := by simp; omega
  refine ⟨_, _, by rw [hl], fun hp => ?_⟩
  obtain ⟨ad, rfl, hlt, hcell⟩ := hA (by omega)
  rw [if_neg (by omega)]
  refine ⟨ad.add (h * n), rfl, (by unfold Addr.add; split <;> exact hlt), fun k zs hk => ?_⟩
  rw [List.getElem?_drop] at hk
  obtain ⟨h1, h2, h3⟩ := hcell (h + k) zs hk
  refine ⟨h1, h2, fun j u hu => ?_⟩
  have := h3 j u hu
  rw [Nat.add_mul, ← Addr.add_add] at this
  exact this

theorem ops_size (W : World) : (sizeOf (Try.prog.elem 22)).run Try.prog W = .ok 4 W := by
  have : Try.prog.elem 22 = 37 := by kernel_rfl
  rw [this]
  have hi : (Try.prog.info? 37).map (·.size) = some 4 := by kernel_rfl
  obtain ⟨i, hi, hs⟩ := Option.map_eq_some_iff.1 hi
  simp [sizeOf, typeInfo, hi, hs]

/-- x[:h] and x[h:] of a slice of calls. -/
theorem ops_first (A : Option Addr) (m c h : Nat) (hh : h ≤ m) (hc : m ≤ c) : ∃ A1, (∀ W, (Instr.slice 22 (.slice A m c) none (some (.int .i64 (h : Int))) none).run Try.prog W = .ok (.slice A1 h c) W) ∧ A1 = A := by
  refine ⟨if c = 0 then A else A.map (·.add (0 * 4)), fun W => ?_, ?_⟩
  · rw [run_slice_h (P := Try.prog) (w := W) 22 A m c (by kernel_rfl) .i64 (h : Int) (by omega) (by omega), ops_size]
    have e1 : ((h : Int)).toNat = h := by omega
    simp only [Result.andThen, sliced, e1, Nat.sub_zero]
  · cases A with
    | none => simp
    | some ad => simp [Addr.add]

theorem ops_rest (A : Option Addr) (m c h : Nat) (hh : h ≤ m) (W : World) : (Instr.slice 22 (.slice A m c) (some (.int .i64 (h : Int))) none none).run Try.prog W = .ok (.slice (if c = h then A else A.map (·.add (h * 4))) (m - h) (c - h)) W := by
  rw [run_slice_l (P := Try.prog) (w := W) 22 A m c (by kernel_rfl) .i64 (h : Int) (by omega) (by omega), ops_size]
  have e1 : ((h : Int)).toNat = h := by omega
  simp only [Result.andThen, sliced, e1]

theorem runE_out {N a : Int} (h : ¬ (0 ≤ a ∧ a < N)) : runE N a 1 = 4 := by
  unfold runE; rw [if_neg (by omega), if_pos (by omega)]

#print axioms TwoBus.left
#print axioms ops_first
end Go.Proofs.Ytoiaojpomhjlaaa
