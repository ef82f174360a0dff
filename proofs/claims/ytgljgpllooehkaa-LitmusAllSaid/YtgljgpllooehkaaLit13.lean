/-
  Layer 7 (litmus): cmp.Compare and slices.Compare at integers; the order of lists.
  Conditions: those that each theorem states.
-/
import Derived.Test.YtgljgpllooehkaaLit12
namespace Go.Proofs.Ytgljgpllooehkaa
open Go.ChangeShapes Go.WideShapes Go.ChangeAt Go.RowKit

def cmpI (a b : Int) : Int := if a < b then -1 else if b < a then 1 else 0

def cmpL : List Int → List Int → Int
  | [], [] => 0
  | [], _ :: _ => -1
  | _ :: _, [] => 1
  | a :: x, b :: y => if cmpI a b = 0 then cmpL x y else cmpI a b

theorem cmpI_zero {a b : Int} : cmpI a b = 0 ↔ a = b := by
  unfold cmpI
  split
  · constructor <;> intro h <;> omega
  · split <;> constructor <;> intro h <;> omega

theorem cmpI_neg (a b : Int) : cmpI a b = - cmpI b a := by
  unfold cmpI
  split <;> split <;> (try split) <;> omega

theorem cmpL_neg : ∀ x y : List Int, cmpL x y = - cmpL y x
  | [], [] => rfl
  | [], _ :: _ => rfl
  | _ :: _, [] => rfl
  | a :: x, b :: y => by
    have h := cmpI_neg a b
    have ih := cmpL_neg x y
    unfold cmpL
    by_cases e : cmpI a b = 0
    · rw [if_pos e, if_pos (by omega), ih]
    · rw [if_neg e, if_neg (by omega), h]

theorem cmpL_zero : ∀ {x y : List Int}, cmpL x y = 0 ↔ x = y
  | [], [] => by simp [cmpL]
  | [], _ :: _ => by simp [cmpL]
  | _ :: _, [] => by simp [cmpL]
  | a :: x, b :: y => by
    unfold cmpL
    by_cases e : cmpI a b = 0
    · rw [if_pos e, cmpL_zero]
      have := cmpI_zero.1 e
      simp [this]
    · rw [if_neg e]
      constructor
      · intro h; exact absurd h e
      · intro h; injection h with h1 _; exact absurd (cmpI_zero.2 h1) e

theorem cmpI_lt {a b : Int} : cmpI a b < 0 ↔ a < b := by
  unfold cmpI
  split
  · constructor <;> intro h <;> omega
  · split <;> constructor <;> intro h <;> omega

theorem cmpL_trans : ∀ {x y z : List Int}, cmpL x y < 0 → cmpL y z < 0 → cmpL x z < 0
  | [], [], _, h, _ => by simp [cmpL] at h
  | [], _ :: _, [], _, h => by simp [cmpL] at h
  | [], _ :: _, _ :: _, _, _ => by simp [cmpL]
  | _ :: _, [], _, h, _ => by simp [cmpL] at h
  | _ :: _, _ :: _, [], _, h => by simp [cmpL] at h
  | a :: x, b :: y, c :: z, h1, h2 => by
    unfold cmpL at h1 h2 ⊢
    by_cases e1 : cmpI a b = 0
    · have := cmpI_zero.1 e1
      subst this
      rw [if_pos e1] at h1
      by_cases e2 : cmpI a c = 0
      · rw [if_pos e2] at h2 ⊢
        exact cmpL_trans h1 h2
      · rw [if_neg e2] at h2 ⊢
        exact h2
    · rw [if_neg e1] at h1
      by_cases e2 : cmpI b c = 0
      · have := cmpI_zero.1 e2
        subst this
        rw [if_neg e1]
        exact h1
      · rw [if_neg e2] at h2
        have k1 := cmpI_lt.1 h1
        have k2 := cmpI_lt.1 h2
        have k3 : cmpI a c < 0 := cmpI_lt.2 (by omega)
        rw [if_neg (by omega)]
        exact k3

set_option maxRecDepth 100000 in
set_option maxHeartbeats 400000 in
theorem cmp_any (a b : Int) (w : World) : Calls Try.prog 39 #[.int .i64 a, .int .i64 b] w fun e w' => e = .returned (.int .i64 (cmpI a b)) ∧ w = w' := by
  have nn : ∀ (x : Int) (W : World), Calls Try.prog 56 #[.int .i64 x] W fun e w' => e = .returned (.bool false) ∧ W = w' := by
    intro x W
    go_enter Try.func56, Try.ntmps56
    go_wp2
    go_ret
    simp
  have NN := Lib.hid nn
  clear nn
  by_cases h1 : a < b
  · have e : cmpI a b = -1 := by unfold cmpI; rw [if_pos h1]
    have E := Lib.hid e
    clear e
    go_enter Try.func39, Try.ntmps39
    go_wp2_with (go_at_call 56; refine (NN.out _ _).mono ?_; rintro e w' ⟨rfl, rfl⟩)
    go_ret
    exact ⟨by rw [E.out]; rfl, rfl⟩
  · by_cases h2 : b < a
    · have e : cmpI a b = 1 := by unfold cmpI; rw [if_neg h1, if_pos h2]
      have E := Lib.hid e
      clear e
      go_enter Try.func39, Try.ntmps39
      go_wp2_with (go_at_call 56; refine (NN.out _ _).mono ?_; rintro e w' ⟨rfl, rfl⟩)
      go_ret
      exact ⟨by rw [E.out]; rfl, rfl⟩
    · have e : cmpI a b = 0 := by unfold cmpI; rw [if_neg h1, if_neg h2]
      have E := Lib.hid e
      clear e
      go_enter Try.func39, Try.ntmps39
      go_wp2_with (go_at_call 56; refine (NN.out _ _).mono ?_; rintro e w' ⟨rfl, rfl⟩)
      go_ret
      exact ⟨by rw [E.out]; rfl, rfl⟩

/-- The slice v holds the integers l (wherever it lies). -/
def IntsAt (w : World) (v : Value) (l : List Int) : Prop := ∃ A c, v = .slice A l.length c ∧ ∀ k x, l[k]? = some x → ∃ ad : Addr, A = some ad ∧ ad.block < w.heap.size ∧ w.cell? (ad.add k) = some (.int .i64 x)

theorem IntsAt.below {w w' : World} {v : Value} {l : List Int} (h : IntsAt w v l) (hb : Below w.heap.size w w') : IntsAt w' v l := by
  obtain ⟨A, c, rfl, hc⟩ := h
  refine ⟨A, c, rfl, fun k x hk => ?_⟩
  obtain ⟨ad, rfl, hlt, hx⟩ := hc k x hk
  have hbl : (ad.add k).block = ad.block := by unfold Addr.add; split <;> rfl
  exact ⟨ad, rfl, Nat.lt_of_lt_of_le hlt hb.size, by rw [hb.cell (by rw [hbl]; exact hlt)]; exact hx⟩

theorem IntsAt.of_own {w : World} {base : Nat} {v : Value} {n : Nat} {l : List Int} (h : w.ownsRow base 3 1 v n (ints l)) : IntsAt w v l := by
  obtain ⟨hl, h2⟩ := h
  rw [Nat.mul_one, ints_len] at hl
  subst hl
  rcases h2 with ⟨rfl, h0⟩ | ⟨g, cap, cur, rfl, hb, hg, hn, hm, hs, ht⟩
  · obtain rfl : l = [] := List.eq_nil_of_length_eq_zero h0
    exact ⟨none, 0, rfl, fun k x hk => by simp at hk⟩
  · refine ⟨_, cap, rfl, fun k x hk => ⟨_, rfl, (Array.getElem?_eq_some_iff.1 hg).1, ?_⟩⟩
    rw [Addr.add_lit, Nat.zero_add, cell_of_row w g k cur _ (0, 0) hg]
    have h2 : (ints l)[k]? = some (.int .i64 x) := ints_some hk
    rw [← ht, List.getElem?_take] at h2
    split at h2
    · simpa using h2
    · cases h2

theorem cmpL_drop {x y : List Int} {k : Nat} {a b : Int} (hx : x[k]? = some a) (hy : y[k]? = some b) : cmpL (x.drop k) (y.drop k) = if cmpI a b = 0 then cmpL (x.drop (k + 1)) (y.drop (k + 1)) else cmpI a b := by
  obtain ⟨h1, rfl⟩ := List.getElem?_eq_some_iff.1 hx
  obtain ⟨h2, rfl⟩ := List.getElem?_eq_some_iff.1 hy
  rw [List.drop_eq_getElem_cons h1, List.drop_eq_getElem_cons h2]
  rfl

set_option maxRecDepth 100000 in
set_option maxHeartbeats 1000000 in
theorem compare_any (v1 v2 : Value) (l1 l2 : List Int) (w : World) (h1 : IntsAt w v1 l1) (h2 : IntsAt w v2 l2) (hl : l1.length ≤ 1000000) :
    Calls Try.prog 25 #[v1, v2] w fun e w' => e = .returned (.int .i64 (cmpL l1 l2)) ∧ w = w' := by
  obtain ⟨A1, c1, rfl, hc1⟩ := h1
  obtain ⟨A2, c2, rfl, hc2⟩ := h2
  obtain ⟨n1, hn1⟩ : ∃ n, l1.length = n := ⟨_, rfl⟩
  obtain ⟨n2, hn2⟩ : ∃ n, l2.length = n := ⟨_, rfl⟩
  rw [hn1] at hl ⊢
  rw [hn2]
  obtain ⟨r, hr⟩ : ∃ r, cmpL l1 l2 = r := ⟨_, rfl⟩
  have HC1 := Lib.hid hc1
  have HC2 := Lib.hid hc2
  have HN1 := Lib.hid hn1
  have HN2 := Lib.hid hn2
  have HR := Lib.hid hr
  rw [hr]
  clear hc1 hc2 hn1 hn2 hr
  go_enter Try.func25, Try.ntmps25
  go_wp2
  go_loop [11] (fun idx => ∃ k : Nat, k ≤ n1 ∧ idx = .int .i64 k ∧ Hid (k ≤ n2 ∧ cmpL (l1.drop k) (l2.drop k) = r)) (fun idx => n1 - (intOf idx).toNat)
  case atStart => exact ⟨0, Nat.zero_le _, rfl, Lib.hid ⟨Nat.zero_le _, HR.out⟩⟩
  case round =>
    obtain ⟨k, hk, rfl, HK⟩ := hrel
    by_cases hlt : k < n1
    · obtain ⟨a, ha⟩ : ∃ a, l1[k]? = some a := ⟨_, List.getElem?_eq_getElem (by rw [HN1.out]; exact hlt)⟩
      obtain ⟨ad1, rfl, _, d1⟩ := HC1.out k a ha
      by_cases hlt2 : k < n2
      · obtain ⟨b, hb⟩ : ∃ b, l2[k]? = some b := ⟨_, List.getElem?_eq_getElem (by rw [HN2.out]; exact hlt2)⟩
        obtain ⟨ad2, rfl, _, d2⟩ := HC2.out k b hb
        have cd := cmpL_drop ha hb
        rw [HK.out.2] at cd
        have CM := Lib.hid (cmp_any a b)
        obtain ⟨x, hx⟩ : ∃ x, cmpI a b = x := ⟨_, rfl⟩
        rw [hx] at cd CM
        clear ha hb hx
        by_cases h0 : x = 0
        · rw [if_pos h0] at cd
          have b0 : (x != 0) = false := by simpa using h0
          have CD := Lib.hid cd
          clear cd h0
          go_wp2_with (go_at_call 39; refine (CM.out _).mono ?_; rintro e w' ⟨rfl, rfl⟩)
          go_round
          case rel => exact ⟨k + 1, by omega, by go_num, Lib.hid ⟨by omega, CD.out.symm⟩⟩
          case measure => simp [intOf]; omega
        · rw [if_neg h0] at cd
          have b0 : (x != 0) = true := by simpa using h0
          subst cd
          clear h0
          go_wp2_with (go_at_call 39; refine (CM.out _).mono ?_; rintro e w' ⟨rfl, rfl⟩)
          go_ret
          exact ⟨rfl, rfl⟩
      · have e : r = 1 := by
          rw [← HK.out.2]
          obtain ⟨h1, rfl⟩ := List.getElem?_eq_some_iff.1 ha
          rw [List.drop_eq_getElem_cons h1, List.drop_of_length_le (l := l2) (by rw [HN2.out]; omega)]
          rfl
        have E := Lib.hid e
        clear ha e
        go_wp2
        go_ret
        exact ⟨by rw [E.out]; rfl, rfl⟩
    · obtain rfl : k = n1 := by omega
      have h3 := HK.out.2
      rw [List.drop_of_length_le (l := l1) (by rw [HN1.out]; omega)] at h3
      by_cases hlt2 : k < n2
      · have e : r = -1 := by
          rw [← h3, List.drop_eq_getElem_cons (by rw [HN2.out]; exact hlt2)]
          rfl
        have E := Lib.hid e
        clear e h3
        go_wp2
        go_ret
        exact ⟨by rw [E.out]; rfl, rfl⟩
      · have e : r = 0 := by
          rw [← h3, List.drop_of_length_le (by rw [HN2.out]; omega)]
          rfl
        have E := Lib.hid e
        clear e h3
        go_wp2
        go_ret
        exact ⟨by rw [E.out]; rfl, rfl⟩

#print axioms cmpL_trans
#print axioms compare_any
end Go.Proofs.Ytgljgpllooehkaa
