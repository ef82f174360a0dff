/-
  Layer 10 (locks): the reference's Do for every call.
  Conditions: those that each theorem states.
-/
import Derived.Test.YtdpoigeeechchaaRLk3
namespace Go.Proofs.Ytdpoigeeechchaa
open Go.ChangeShapes Go.WideShapes Go.ChangeAt Go.RowKit

theorem rdo10_any (P : Nat → Prop) (C : Nat) (v : Value) (l : List Int) (K c i : Int) (w : World) (hv : Lies w P v (ints l)) (hcap : CapOk v) (hl : l.length ≤ 16) (hok : ∀ (i : Nat) (x : Int), l[i]? = some x → OwnOk C x) (hP : ∀ b, w.heap.size ≤ b → P b) :
    Calls Try.prog 10 #[rbankV C v, opV10 K c i] w (RBankP P C (dL C l K c i) [.int .i64 (dX C l K c i), .int .i64 (dE C l K c i)] w) := by
  rcases (show i < 0 ∨ (l.length : Int) ≤ i ∨ ∃ k : Nat, i = k ∧ k < l.length from by
    by_cases h1 : i < 0
    · exact .inl h1
    · by_cases h2 : (l.length : Int) ≤ i
      · exact .inr (.inl h2)
      · exact .inr (.inr ⟨i.toNat, by omega, by omega⟩)) with r | r | ⟨k, rfl, r⟩
  · rcases (show c < 0 ∨ (C : Int) ≤ c ∨ (0 ≤ c ∧ c < C) from by omega) with q | q | ⟨q, q'⟩
    · by_cases h0 : K = 0
      · subst h0; exact rdo10_0nn P C v l c i w hv hcap hl hok hP q r
      · by_cases h1 : K = 1
        · subst h1; exact rdo10_1nn P C v l c i w hv hcap hl hok hP q r
        · by_cases h3 : K = 3
          · subst h3; exact rdo10_3nn P C v l c i w hv hcap hl hok hP q r
          · exact rdo10_dnn P C v l K c i w hv hcap hl hok hP (by simpa using h0) (by simpa using h1) (by simpa using h3) q r
    · by_cases h0 : K = 0
      · subst h0; exact rdo10_0bn P C v l c i w hv hcap hl hok hP q r
      · by_cases h1 : K = 1
        · subst h1; exact rdo10_1bn P C v l c i w hv hcap hl hok hP q r
        · by_cases h3 : K = 3
          · subst h3; exact rdo10_3bn P C v l c i w hv hcap hl hok hP q r
          · exact rdo10_dbn P C v l K c i w hv hcap hl hok hP (by simpa using h0) (by simpa using h1) (by simpa using h3) q r
    · by_cases h0 : K = 0
      · subst h0; exact rdo10_0on P C v l c i w hv hcap hl hok hP q q' r
      · by_cases h1 : K = 1
        · subst h1; exact rdo10_1on P C v l c i w hv hcap hl hok hP q q' r
        · by_cases h3 : K = 3
          · subst h3; exact rdo10_3on P C v l c i w hv hcap hl hok hP q q' r
          · exact rdo10_don P C v l K c i w hv hcap hl hok hP (by simpa using h0) (by simpa using h1) (by simpa using h3) q q' r
  · rcases (show c < 0 ∨ (C : Int) ≤ c ∨ (0 ≤ c ∧ c < C) from by omega) with q | q | ⟨q, q'⟩
    · by_cases h0 : K = 0
      · subst h0; exact rdo10_0nb P C v l c i w hv hcap hl hok hP q r
      · by_cases h1 : K = 1
        · subst h1; exact rdo10_1nb P C v l c i w hv hcap hl hok hP q r
        · by_cases h3 : K = 3
          · subst h3; exact rdo10_3nb P C v l c i w hv hcap hl hok hP q r
          · exact rdo10_dnb P C v l K c i w hv hcap hl hok hP (by simpa using h0) (by simpa using h1) (by simpa using h3) q r
    · by_cases h0 : K = 0
      · subst h0; exact rdo10_0bb P C v l c i w hv hcap hl hok hP q r
      · by_cases h1 : K = 1
        · subst h1; exact rdo10_1bb P C v l c i w hv hcap hl hok hP q r
        · by_cases h3 : K = 3
          · subst h3; exact rdo10_3bb P C v l c i w hv hcap hl hok hP q r
          · exact rdo10_dbb P C v l K c i w hv hcap hl hok hP (by simpa using h0) (by simpa using h1) (by simpa using h3) q r
    · by_cases h0 : K = 0
      · subst h0; exact rdo10_0ob P C v l c i w hv hcap hl hok hP q q' r
      · by_cases h1 : K = 1
        · subst h1; exact rdo10_1ob P C v l c i w hv hcap hl hok hP q q' r
        · by_cases h3 : K = 3
          · subst h3; exact rdo10_3ob P C v l c i w hv hcap hl hok hP q q' r
          · exact rdo10_dob P C v l K c i w hv hcap hl hok hP (by simpa using h0) (by simpa using h1) (by simpa using h3) q q' r
  · obtain ⟨x, hx⟩ : ∃ x, l[k]? = some x := ⟨_, List.getElem?_eq_getElem r⟩
    rcases (show c < 0 ∨ (C : Int) ≤ c ∨ (0 ≤ c ∧ c < C) from by omega) with q | q | ⟨q, q'⟩
    · by_cases h0 : K = 0
      · subst h0; exact rdo10_0no P C v l c k w hv hcap hl hok hP q r
      · by_cases h1 : K = 1
        · subst h1; exact rdo10_1no P C v l c k w hv hcap hl hok hP q r
        · by_cases h3 : K = 3
          · subst h3; exact rdo10_3no P C v l c k w hv hcap hl hok hP q r
          · exact rdo10_dno P C v l K c k w hv hcap hl hok hP (by simpa using h0) (by simpa using h1) (by simpa using h3) q r x hx
    · by_cases h0 : K = 0
      · subst h0; exact rdo10_0bo P C v l c k w hv hcap hl hok hP q r
      · by_cases h1 : K = 1
        · subst h1; exact rdo10_1bo P C v l c k w hv hcap hl hok hP q r
        · by_cases h3 : K = 3
          · subst h3; exact rdo10_3bo P C v l c k w hv hcap hl hok hP q r
          · exact rdo10_dbo P C v l K c k w hv hcap hl hok hP (by simpa using h0) (by simpa using h1) (by simpa using h3) q r x hx
    · by_cases h0 : K = 0
      · subst h0
        rcases hok k x hx with rfl | hx0
        · exact rdo10_0free P C v l c k w hv hcap hl hok hP q q' r hx
        · exact rdo10_0taken P C v l c k w hv hcap hl hok hP q q' r x hx hx0.1
      · by_cases h1 : K = 1
        · subst h1
          by_cases hxc : x = c
          · subst hxc; exact rdo10_1did P C v l x k w hv hcap hl hok hP q q' r hx
          · exact rdo10_1not P C v l c k w hv hcap hl hok hP q q' r x hx hxc
        · by_cases h3 : K = 3
          · subst h3; exact rdo10_3oo P C v l c k w hv hcap hl hok hP q q' r
          · exact rdo10_doo P C v l K c k w hv hcap hl hok hP (by simpa using h0) (by simpa using h1) (by simpa using h3) q q' r x hx

#print axioms rdo10_any
end Go.Proofs.Ytdpoigeeechchaa
