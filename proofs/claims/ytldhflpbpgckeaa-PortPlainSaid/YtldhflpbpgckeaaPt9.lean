/-
  Layer 14 (port): the law's do at a Trace that forwards to a Plain; the example.
  Conditions: those that each theorem states.
-/
import Derived.Test.YtldhflpbpgckeaaPt8
namespace Go.Proofs.Ytldhflpbpgckeaa
open Go.ChangeShapes Go.WideShapes Go.ChangeAt Go.RowKit

/-- What a touch makes of the words, of the kicks, what is recorded, and what is told. -/
def dV14 (V : List Int) (κ i u : Int) : List Int := if κ = 2 then put14 V i (u % 65536) else V
def dK14 (K : List Int) (κ i : Int) : List Int := if κ = 5 then K ++ [i] else K
def dT14 (V E : List Int) (κ i u : Int) : List Tch := if κ = 1 then [(1, i, nth14 V i)] else if κ = 2 then [(2, i, u)] else if κ = 3 then [(3, 0, 0)] else if κ = 4 then [(4, i, nth14 E i)] else if κ = 5 then [(5, i, 0)] else []
def dN14 (V E : List Int) (κ i : Int) : Int := if κ = 1 then nth14 V i else if κ = 4 then nth14 E i else 0
theorem dV14_len (V : List Int) (κ i u : Int) : (dV14 V κ i u).length = V.length := by unfold dV14; split <;> simp [put14_len]
theorem dK14_len (K : List Int) (κ i : Int) : (dK14 K κ i).length ≤ K.length + 1 := by unfold dK14; split <;> simp
theorem dT14_len (V E : List Int) (κ i u : Int) : (dT14 V E κ i u).length ≤ 1 := by
  unfold dT14
  by_cases h1 : κ = 1
  · rw [if_pos h1]; simp
  · rw [if_neg h1]
    by_cases h2 : κ = 2
    · rw [if_pos h2]; simp
    · rw [if_neg h2]
      by_cases h3 : κ = 3
      · rw [if_pos h3]; simp
      · rw [if_neg h3]
        by_cases h4 : κ = 4
        · rw [if_pos h4]; simp
        · rw [if_neg h4]
          by_cases h5 : κ = 5
          · rw [if_pos h5]; simp
          · rw [if_neg h5]; simp
theorem dV14_bd {V : List Int} (h : ∀ x ∈ V, 0 ≤ x ∧ x ≤ 65535) (κ i u : Int) : ∀ y ∈ dV14 V κ i u, 0 ≤ y ∧ y ≤ 65535 := by
  unfold dV14
  split
  · exact put14_bd h i u
  · exact h

section
variable {t p a b : Nat} {k v : Value} {V E K : List Int} {T : List Tch}

theorem PtP.since {ans : Value} {w w1 w' : World} {e : Ending} {V' K' : List Int} {T' : List Tch} (hb : Below w.heap.size w w1) (h : PtP t p a b k v V' E K' T' ans w1 e w') : PtP t p a b k v V' E K' T' ans w e w' := by
  obtain ⟨k', v', he, h1, h2, h3, h4⟩ := h
  have := hb.size
  exact ⟨k', v', he, h1, (Only.of_below hb _).trans h2, h3.imp id (fun ⟨g, a1, a2⟩ => ⟨g, a1, by omega⟩), h4.imp id (fun ⟨g, a1, a2⟩ => ⟨g, a1, by omega⟩)⟩

/-- A Trace as a port. -/
def tface14 (t : Nat) : Value := .iface 27 (.pointer (some ⟨t, 0, none⟩))
def touchV (κ i u : Int) : Value := .agg #[.int .i64 κ, .int .i64 i, .int .i64 u]

set_option maxRecDepth 100000 in
set_option maxHeartbeats 4000000 in
theorem do14_any (κ i u : Int) (w : World) (r : PtAt w t p a b k v V E K T) (hl : T.length ≤ 65536) (hk : K.length ≤ 65536) :
    Calls Try.prog 9 #[tface14 t, touchV κ i u] w (PtP t p a b k v (dV14 V κ i u) E (dK14 K κ i) (T ++ dT14 V E κ i u) (.int .i64 (dN14 V E κ i)) w) := by
  have BB := Lib.hid (below_al w (.cells #[.int .i64 κ, .int .i64 i, .int .i64 u] 33))
  have R := Lib.hid (r.below BB.out)
  clear r
  unfold tface14 touchV
  by_cases h1 : κ = 1
  · subst h1
    have e : Hid (dV14 V 1 i u = V ∧ dK14 K 1 i = K ∧ dT14 V E 1 i u = [(1, i, nth14 V i)] ∧ dN14 V E 1 i = nth14 V i) := Lib.hid ⟨rfl, rfl, rfl, rfl⟩
    rw [e.out.1, e.out.2.1, e.out.2.2.1, e.out.2.2.2]
    go_enter Try.func9, Try.ntmps9
    go_wp2_with fail
    refine (tload14_any i _ R.out hl).mono ?_
    rintro e w' h
    have H := Lib.hid (PtP.since BB.out h)
    obtain ⟨k', v', rfl, h⟩ := h
    clear h
    go_wp2
    go_ret
    exact H.out
  · have n1 : (κ == 1) = false := by simpa using h1
    by_cases h2 : κ = 2
    · subst h2
      have e : Hid (dV14 V 2 i u = put14 V i (u % 65536) ∧ dK14 K 2 i = K ∧ dT14 V E 2 i u = [(2, i, u)] ∧ dN14 V E 2 i = 0) := Lib.hid ⟨rfl, rfl, rfl, rfl⟩
      rw [e.out.1, e.out.2.1, e.out.2.2.1, e.out.2.2.2]
      clear h1 n1
      go_enter Try.func9, Try.ntmps9
      go_wp2_with fail
      refine (tstore14_any i u _ R.out hl).mono ?_
      rintro e w' h
      obtain ⟨k', v', rfl, h⟩ := h
      have H : Hid (PtP t p a b k v _ E _ _ (.int .i64 0) w _ w') := Lib.hid (PtP.since BB.out ⟨k', v', rfl, h⟩)
      clear h
      go_wp2
      go_ret
      exact H.out
    · have n2 : (κ == 2) = false := by simpa using h2
      by_cases h3 : κ = 3
      · subst h3
        have e : Hid (dV14 V 3 i u = V ∧ dK14 K 3 i = K ∧ dT14 V E 3 i u = [(3, 0, 0)] ∧ dN14 V E 3 i = 0) := Lib.hid ⟨rfl, rfl, rfl, rfl⟩
        rw [e.out.1, e.out.2.1, e.out.2.2.1, e.out.2.2.2]
        clear h1 n1 h2 n2
        go_enter Try.func9, Try.ntmps9
        go_wp2_with fail
        refine (tfence14_any _ R.out hl).mono ?_
        rintro e w' h
        obtain ⟨k', v', rfl, h⟩ := h
        have H : Hid (PtP t p a b k v _ E _ _ (.int .i64 0) w _ w') := Lib.hid (PtP.since BB.out ⟨k', v', rfl, h⟩)
        clear h
        go_wp2
        go_ret
        exact H.out
      · have n3 : (κ == 3) = false := by simpa using h3
        by_cases h4 : κ = 4
        · subst h4
          have e : Hid (dV14 V 4 i u = V ∧ dK14 K 4 i = K ∧ dT14 V E 4 i u = [(4, i, nth14 E i)] ∧ dN14 V E 4 i = nth14 E i) := Lib.hid ⟨rfl, rfl, rfl, rfl⟩
          rw [e.out.1, e.out.2.1, e.out.2.2.1, e.out.2.2.2]
          clear h1 n1 h2 n2 h3 n3
          go_enter Try.func9, Try.ntmps9
          go_wp2_with fail
          refine (tepoch14_any i _ R.out hl).mono ?_
          rintro e w' h
          have H := Lib.hid (PtP.since BB.out h)
          obtain ⟨k', v', rfl, h⟩ := h
          clear h
          go_wp2
          go_ret
          exact H.out
        · have n4 : (κ == 4) = false := by simpa using h4
          by_cases h5 : κ = 5
          · subst h5
            have e : Hid (dV14 V 5 i u = V ∧ dK14 K 5 i = K ++ [i] ∧ dT14 V E 5 i u = [(5, i, 0)] ∧ dN14 V E 5 i = 0) := Lib.hid ⟨rfl, rfl, rfl, rfl⟩
            rw [e.out.1, e.out.2.1, e.out.2.2.1, e.out.2.2.2]
            clear h1 n1 h2 n2 h3 n3 h4 n4
            go_enter Try.func9, Try.ntmps9
            go_wp2_with fail
            refine (tkick14_any i _ R.out hl hk).mono ?_
            rintro e w' h
            obtain ⟨k', v', rfl, h⟩ := h
            have H : Hid (PtP t p a b k v _ E _ _ (.int .i64 0) w _ w') := Lib.hid (PtP.since BB.out ⟨k', v', rfl, h⟩)
            clear h
            go_wp2
            go_ret
            exact H.out
          · have n5 : (κ == 5) = false := by simpa using h5
            have e : Hid (dV14 V κ i u = V ∧ dK14 K κ i = K ∧ T ++ dT14 V E κ i u = T ∧ dN14 V E κ i = 0) := Lib.hid ⟨by unfold dV14; rw [if_neg h2], by unfold dK14; rw [if_neg h5], by unfold dT14; rw [if_neg h1, if_neg h2, if_neg h3, if_neg h4, if_neg h5, List.append_nil], by unfold dN14; rw [if_neg h1, if_neg h4]⟩
            rw [e.out.1, e.out.2.1, e.out.2.2.1, e.out.2.2.2]
            clear h1 h2 h3 h4 h5
            go_enter Try.func9, Try.ntmps9
            go_wp2
            go_ret
            exact ⟨k, v, rfl, R.out, Only.of_below BB.out _, .inl rfl, .inl rfl⟩
end

set_option maxRecDepth 100000 in
set_option maxHeartbeats 1000000 in
theorem alive14 (w : World) : Calls Try.prog 4 #[] w fun e w' => e = .returned (.bool true) ∧ Below w.heap.size w w' := by
  have OW := Lib.hid (fun (W : World) (h : Lies W (fun _ => True) (.slice (some ⟨w.heap.size, 0, none⟩) 2 2) (ints [5, 6])) => ofWords14_any _ (fun _ => True) [5, 6] [] _ _ W h (Lies.nil_ _ _) (by decide) (by decide))
  have L0 : Hid (Lies (w.alloc (.cells #[.int .i64 5, .int .i64 6] 3)) (fun _ => True) (.slice (some ⟨w.heap.size, 0, none⟩) 2 2) (ints [5, 6])) := Lib.hid (Lies.fresh w _ 3 [.int .i64 5, .int .i64 6] w.heap.size rfl trivial 2)
  go_enter Try.func4, Try.ntmps4
  go_wp2_with fail
  refine (OW.out _ L0.out).mono ?_
  rintro e w1 ⟨p, a, b, rfl, r1, ha, hp, hb1⟩
  unfold ptr
  go_wp2_with fail
  refine (store14_any 1 65537 w1 r1).mono ?_
  rintro e w2 ⟨rfl, r2, o2⟩
  have R2 := Lib.hid r2
  have HB := Lib.hid (Only.below (below_on (below_al _ _) hb1) o2 (Nat.le_trans (by simp) hb1.size) (fun g hg e => by simp at ha; omega))
  clear r1 hb1 r2 o2
  go_wp2_with fail
  refine (load14_any 1 w2 R2.out).mono ?_
  rintro e w' ⟨rfl, rfl⟩
  have e1 : nth14 (put14 (mod14 [5, 6]) 1 (65537 % 65536)) 1 = 1 := by decide
  rw [e1]
  go_wp2_with fail
  refine (load14_any 2 w2 R2.out).mono ?_
  rintro e w' ⟨rfl, rfl⟩
  have e2 : nth14 (put14 (mod14 [5, 6]) 1 (65537 % 65536)) 2 = 0 := by decide
  rw [e2]
  go_wp2_with fail
  refine (load14_any 0 w2 R2.out).mono ?_
  rintro e w' ⟨rfl, rfl⟩
  have e3 : nth14 (put14 (mod14 [5, 6]) 1 (65537 % 65536)) 0 = 5 := by decide
  rw [e3]
  go_wp2
  go_ret
  exact ⟨rfl, HB.out⟩

#print axioms do14_any
#print axioms alive14
end Go.Proofs.Ytldhflpbpgckeaa
