/-
  Contracts of the reference of layer 3: word, run, Load, Store, Span, Fill, Do, Is.
  Conditions: those that each theorem states.
-/
import Derived.Test.YtgoogclcpnfmkaaSram
namespace Go.Proofs.Ytgoogclcpnfmkaa
open Go.ChangeShapes Go.WideShapes Go.ChangeAt Go.RowKit

set_option maxRecDepth 100000 in
set_option maxHeartbeats 400000 in
theorem rword3_any (x : Int) (w : World) :
    Calls Try.prog 84 #[.int .i64 x] w fun e w' => e = .returned (.bool (isW x)) ∧ w = w' := by
  by_cases h : 0 ≤ x
  · by_cases h2 : x ≤ 65535
    · have e : isW x = true := by simp [isW]; omega
      have E := Lib.hid e; clear e
      go_enter Try.func84, Try.ntmps84
      go_wp2
      go_ret
      exact ⟨by rw [E.out]; rfl, rfl⟩
    · have e : isW x = false := by simp [isW]; omega
      have E := Lib.hid e; clear e
      have h' : decide (x ≤ 65535) = false := by simpa using h2
      go_enter Try.func84, Try.ntmps84
      go_wp2
      go_ret
      exact ⟨by rw [E.out]; rfl, rfl⟩
  · have e : isW x = false := by simp [isW]; omega
    have E := Lib.hid e; clear e
    have h' : decide (0 ≤ x) = false := by simpa using h
    go_enter Try.func84, Try.ntmps84
    go_wp2
    go_ret
    exact ⟨by rw [E.out]; rfl, rfl⟩

theorem rword3_yes (x : Int) (w : World) (h : isW x = true) :
    Calls Try.prog 84 #[.int .i64 x] w fun e w' => e = .returned (.bool true) ∧ w = w' := by
  have k := rword3_any x w
  rwa [h] at k

theorem rword3_no (x : Int) (w : World) (h : isW x = false) :
    Calls Try.prog 84 #[.int .i64 x] w fun e w' => e = .returned (.bool false) ∧ w = w' := by
  have k := rword3_any x w
  rwa [h] at k

/-- What a storing call of the reference leaves: its list, and the error. -/
def RefP (P : Nat → Prop) (l : List Int) (e0 : Int) (w : World) (e : Ending) (w' : World) : Prop :=
  ∃ v, e = .returned (.tuple #[v, .int .i64 e0]) ∧ Lies w' P v (ints l) ∧ Below w.heap.size w w'

set_option maxRecDepth 100000 in
set_option maxHeartbeats 1000000 in
theorem rstore_any (P : Nat → Prop) (v : Value) (l : List Int) (a x : Int) (w : World) (hv : Lies w P v (ints l)) (hl : l.length ≤ 65536) (hP : ∀ b, w.heap.size ≤ b → P b) :
    Calls Try.prog 69 #[v, .int .i64 a, .int .i64 x] w (RefP P (fillL l a 1 x) (fillE l.length a 1 x) w) := by
  obtain ⟨i0, hi0, hz0, hz1, hz2⟩ := info_parts int_info
  have hv0 := Lib.hid hv
  obtain ⟨A, c, rfl, hA⟩ := hv
  rw [ints_len] at hA hv0 ⊢
  by_cases hE : fillE l.length a 1 x = 0
  · have hf : fillL l a 1 x = fillK l a.toNat 1 x := by unfold fillL; rw [if_pos hE]; rfl
    obtain ⟨h1, hx⟩ := fillE_ok hE
    obtain ⟨_, q2, q3⟩ := runE_ok h1
    obtain ⟨k, rfl⟩ := Int.eq_ofNat_of_zero_le q2
    have hk : k < l.length := by omega
    obtain ⟨g, o, rfl, hPg, hlt, hc⟩ := hA (by omega)
    rw [Int.toNat_natCast, fillK_succ l k 0 x (by omega), fillK_zero, Nat.add_zero] at hf
    have HF := Lib.hid hf
    have HE := Lib.hid hE
    have HC := Lib.hid hc
    have rw' := Lib.hid (rword3_yes x w hx)
    obtain ⟨n, hn⟩ : ∃ n, l.length = n := ⟨_, rfl⟩
    clear hf hE hc hA h1 hx hv0
    rw [hn] at hl hk q3 ⊢
    have HN := Lib.hid hn; clear hn
    have g1 : ¬ ((n : Int) ≤ (k : Int)) := by omega
    go_enter Try.func69, Try.ntmps69
    go_wp2_with (first
      | (go_at_call 84; refine rw'.out.mono ?_; rintro e w' ⟨rfl, rfl⟩)
      | (at_builtin
         refine wpList_append_own _ rfl (.tmp 22) (.tmp 23) 31 rfl w.heap.size 3 i0 _ 1 8 Try.underlying31 hi0 hz0 hz1 hz2 rfl (by omega) (.slice none 0 0) 0 [] rfl (World.ownsRow_nil _ _ _ _)
           ⟨g, o, none⟩ n c (ints l) rfl (by rw [ints_len, HN.out, Nat.mul_one]) (fun j u hu => by rw [Addr.add_lit]; exact HC.out j u hu) (ints_one l) (by unfold maxLen; omega) (by omega) (Nat.le_refl _) ?_
         intro v1 w1 hown1 hg1 _
         rw [Nat.zero_add, List.nil_append] at hown1
         obtain ⟨g', cap, rfl, hbg, hlt'⟩ := hown1.form (by omega)
         have hc1 := hown1.cellAt k (by omega)
         rw [ints_some (List.getElem?_eq_getElem (by rw [HN.out]; exact hk))] at hc1
         have hf1 := hown1.frozenAt k
         have hb1 : Below w.heap.size w w1 := (Below.refl _ _).grown hg1 (Nat.le_refl _) (by simp [Value.ownBlock])
         have hst := Lib.hid (hown1.stored k (.int .i64 x))
         clear hg1))
    go_ret2
    have HE' := HE.out
    rw [HN.out] at HE'
    refine ⟨_, by rw [HE']; rfl, ?_, hb1.setCell (p := ⟨g', k, none⟩) hbg _⟩
    rw [HF.out, ints_set]
    exact (Lies.of_own hst.out.1).weak (fun q _ hq => hP q hq)
  · have hf : fillL l a 1 x = l := by unfold fillL; rw [if_neg hE]
    rw [hf]
    by_cases h1 : a < 0
    · have e : fillE l.length a 1 x = 4 := by
        have : runE l.length a 1 = 4 := by unfold runE; rw [if_neg (by omega), if_pos (.inl h1)]
        unfold fillE; rw [if_neg (by rw [this]; decide), this]
      have E := Lib.hid e; clear e hA hE hf
      go_enter Try.func69, Try.ntmps69
      go_wp2
      go_ret2
      exact ⟨_, by rw [E.out]; rfl, hv0.out, Below.refl _ _⟩
    · by_cases h2 : (l.length : Int) ≤ a
      · have e : fillE l.length a 1 x = 4 := by
          have : runE l.length a 1 = 4 := by unfold runE; rw [if_neg (by omega), if_pos (.inr (by omega))]
          unfold fillE; rw [if_neg (by rw [this]; decide), this]
        have E := Lib.hid e; clear e hA hE hf
        go_enter Try.func69, Try.ntmps69
        go_wp2
        go_ret2
        exact ⟨_, by rw [E.out]; rfl, hv0.out, Below.refl _ _⟩
      · have hr : runE l.length a 1 = 0 := by unfold runE; rw [if_neg (by omega), if_neg (by omega)]
        have hx : isW x = false := by
          cases hx : isW x
          · rfl
          · exact absurd (by unfold fillE; rw [if_pos hr, hx]; rfl) hE
        have e : fillE l.length a 1 x = 2 := by unfold fillE; rw [if_pos hr, hx]; rfl
        have rw' := Lib.hid (rword3_no x w hx)
        have E := Lib.hid e; clear e hA hE hf hr hx
        go_enter Try.func69, Try.ntmps69
        go_wp2_with (go_at_call 84; refine rw'.out.mono ?_; rintro e w' ⟨rfl, rfl⟩)
        go_ret2
        exact ⟨_, by rw [E.out]; rfl, hv0.out, Below.refl _ _⟩

#print axioms rstore_any
end Go.Proofs.Ytgoogclcpnfmkaa
