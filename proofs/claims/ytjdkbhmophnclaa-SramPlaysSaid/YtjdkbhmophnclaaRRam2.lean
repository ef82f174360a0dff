/-
  Contracts of the reference of layer 3, second part: Fill, Span, Do, Is.
  Conditions: those that each theorem states.
-/
import Derived.Test.YtjdkbhmophnclaaRRam
namespace Go.Proofs.Ytjdkbhmophnclaa
open Go.ChangeShapes Go.WideShapes Go.ChangeAt Go.RowKit

theorem rrun_ok (A : Option Addr) (N c : Nat) (a n : Int) (w : World) (hN : N ≤ 65536) (hn : n ≤ 9223372036854775807) (hE : runE N a n = 0) :
    Calls Try.prog 33 #[.slice A N c, .int .i64 a, .int .i64 n] w fun e w' => e = .returned (.int .i64 0) ∧ w = w' := by
  have h := rrun_any A N c a n w hN hn
  rwa [hE] at h

set_option maxHeartbeats 1000000 in
theorem rfill_any (P : Nat → Prop) (v : Value) (l : List Int) (a n x : Int) (w : World) (hv : Lies w P v (ints l)) (h0 : 1 ≤ l.length) (hl : l.length ≤ 65536) (hn : n ≤ 9223372036854775807) (hP : ∀ b, w.heap.size ≤ b → P b) :
    Calls Try.prog 24 #[v, .int .i64 a, .int .i64 n, .int .i64 x] w (RefP P (fillL l a n x) (fillE l.length a n x) w) := by
  obtain ⟨i0, hi0, hz0, hz1, hz2⟩ := info_parts int_info
  have hv0 := Lib.hid hv
  obtain ⟨A, c, rfl, hA⟩ := hv
  rw [ints_len] at hA hv0 ⊢
  by_cases hE : fillE l.length a n x = 0
  · have hf : fillL l a n x = fillK l a.toNat n.toNat x := by unfold fillL; rw [if_pos hE]
    obtain ⟨h1, hx⟩ := fillE_ok hE
    obtain ⟨q1, q2, q3⟩ := runE_ok h1
    obtain ⟨k, rfl⟩ := Int.eq_ofNat_of_zero_le q2
    obtain ⟨m, rfl⟩ := Int.eq_ofNat_of_zero_le q1
    rw [Int.toNat_natCast, Int.toNat_natCast] at hf
    obtain ⟨g, o, rfl, hPg, hlt, hc⟩ := hA (by omega)
    have HF := Lib.hid hf
    have HE := Lib.hid hE
    have HC := Lib.hid hc
    have rw' := Lib.hid (rword3_yes x w hx)
    have rn := Lib.hid (rrun_ok (some ⟨g, o, none⟩) l.length c k m w hl hn h1)
    obtain ⟨N, hN⟩ : ∃ N, l.length = N := ⟨_, rfl⟩
    clear hf hE hc hA h1 hx hv0
    rw [hN] at hl h0 q3 rn ⊢
    have HN := Lib.hid hN; clear hN
    go_enter Try.func24, Try.ntmps24
    go_wp2_with (first
      | (go_at_call 33; refine rn.out.mono ?_; rintro e w' ⟨rfl, rfl⟩)
      | (go_at_call 32; refine rw'.out.mono ?_; rintro e w' ⟨rfl, rfl⟩)
      | (at_builtin
         refine wpList_append_own _ rfl (.tmp 25) (.tmp 26) 31 rfl w.heap.size 3 i0 _ 1 8 Try.underlying31 hi0 hz0 hz1 hz2 rfl (by omega) (.slice none 0 0) 0 [] rfl (World.ownsRow_nil _ _ _ _)
           ⟨g, o, none⟩ N c (ints l) rfl (by rw [ints_len, HN.out, Nat.mul_one]) (fun j u hu => by rw [Addr.add_lit]; exact HC.out j u hu) (ints_one l) (by unfold maxLen; omega) (by omega) (Nat.le_refl _) ?_
         intro v1 w1 hown1 hg1 _
         rw [Nat.zero_add, List.nil_append] at hown1
         obtain ⟨g', cap, rfl, hbg, hlt'⟩ := hown1.form (by omega)
         have hb1 : Below w.heap.size w w1 := (Below.refl _ _).grown hg1 (Nat.le_refl _) (by simp [Value.ownBlock])
         clear hg1))
    go_loopw [12] (fun i wr => ∃ j : Nat, j ≤ m ∧ i = .int .i64 j ∧ wr.ownsRow w.heap.size 3 1 (.slice (some ⟨g', 0, none⟩) N cap) N (ints (fillK l k j x)) ∧ Below w.heap.size w wr) (fun i _ => m - (intOf i).toNat)
    case atStart => exact ⟨0, Nat.zero_le _, rfl, by rw [fillK_zero]; exact hown1, hb1⟩
    case round =>
      clear hown1 hb1
      obtain ⟨j, hj, rfl, hown, hb⟩ := hrel
      by_cases hjm : j < m
      · have hc1 := hown.cellAt (k + j) (by omega)
        rw [ints_some (List.getElem?_eq_getElem (by rw [fillK_len, HN.out]; omega))] at hc1
        have hf1 := hown.frozenAt (k + j)
        have hst := Lib.hid (hown.stored (k + j) (.int .i64 x))
        go_wp2
        go_roundw
        case rel =>
          refine ⟨j + 1, by omega, by go_num, ?_, hb.setCell (p := ⟨g', k + j, none⟩) hbg _⟩
          rw [fillK_succ l k j x (by rw [HN.out]; omega), ints_set]
          exact hst.out.1
        case measure => simp [intOf]; omega
      · obtain rfl : j = m := by omega
        go_wp2
        go_ret2
        have HE' := HE.out
        rw [HN.out] at HE'
        refine ⟨_, by rw [HE']; rfl, ?_, hb⟩
        rw [HF.out]
        exact (Lies.of_own hown).weak (fun q _ hq => hP q hq)
  · have hf : fillL l a n x = l := by unfold fillL; rw [if_neg hE]
    rw [hf]
    by_cases h1 : runE l.length a n = 0
    · have hx : isW x = false := by
        cases hx : isW x
        · rfl
        · exact absurd (by unfold fillE; rw [if_pos h1, hx]; rfl) hE
      have e : fillE l.length a n x = 2 := by unfold fillE; rw [if_pos h1, hx]; rfl
      have rw' := Lib.hid (rword3_no x w hx)
      have rn := Lib.hid (rrun_ok A l.length c a n w hl hn h1)
      have E := Lib.hid e; clear e hA hE hf h1 hx
      go_enter Try.func24, Try.ntmps24
      go_wp2_with (first
        | (go_at_call 33; refine rn.out.mono ?_; rintro e w' ⟨rfl, rfl⟩)
        | (go_at_call 32; refine rw'.out.mono ?_; rintro e w' ⟨rfl, rfl⟩))
      go_ret2
      exact ⟨_, by rw [E.out]; rfl, hv0.out, Below.refl _ _⟩
    · have e : fillE l.length a n x = runE l.length a n := by unfold fillE; rw [if_neg h1]
      have hb : (runE (l.length : Int) a n != 0) = true := by simpa using h1
      have rn := Lib.hid (rrun_any A l.length c a n w hl hn)
      have E := Lib.hid e; clear e hA hE hf h1
      go_enter Try.func24, Try.ntmps24
      go_wp2_with (go_at_call 33; refine rn.out.mono ?_; rintro e w' ⟨rfl, rfl⟩)
      go_ret2
      exact ⟨_, by rw [E.out]; rfl, hv0.out, Below.refl _ _⟩

set_option maxHeartbeats 1000000 in
theorem rspan_any (P : Nat → Prop) (v : Value) (l : List Int) (a n : Int) (w : World) (hv : Lies w P v (ints l)) (hl : l.length ≤ 65536) (hn : n ≤ 9223372036854775807) :
    Calls Try.prog 23 #[v, .int .i64 a, .int .i64 n] w (SpanP l a n w) := by
  obtain ⟨i0, hi0, hz0, hz1, hz2⟩ := info_parts int_info
  obtain ⟨A, c, rfl, hA⟩ := hv
  rw [ints_len] at hA ⊢
  by_cases hE : runE l.length a n = 0
  · have hs : spanL l a n = (l.drop a.toNat).take n.toNat := by unfold spanL; rw [if_pos hE]
    obtain ⟨q1, q2, q3⟩ := runE_ok hE
    obtain ⟨k, rfl⟩ := Int.eq_ofNat_of_zero_le q2
    obtain ⟨m, rfl⟩ := Int.eq_ofNat_of_zero_le q1
    rw [Int.toNat_natCast, Int.toNat_natCast] at hs
    have rn := Lib.hid (rrun_ok A l.length c k m w hl hn hE)
    have HS := Lib.hid hs
    have HE := Lib.hid hE
    have HA := Lib.hid hA
    clear hs hE hA
    unfold SpanP
    rw [HE.out, HS.out]
    obtain ⟨N, hN⟩ : ∃ N, l.length = N := ⟨_, rfl⟩
    rw [hN] at hl q3 rn HA ⊢
    have HN := Lib.hid hN; clear hN
    go_enter Try.func23, Try.ntmps23
    go_wp2_with (go_at_call 33; refine rn.out.mono ?_; rintro e w' ⟨rfl, rfl⟩)
    go_loopw [9, 10] (fun v i wr => ∃ j : Nat, j ≤ m ∧ i = .int .i64 j ∧ wr.ownsRow w.heap.size 3 1 v j (ints ((l.drop k).take j)) ∧ Below w.heap.size w wr) (fun _ i _ => m - (intOf i).toNat)
    case atStart => exact ⟨0, Nat.zero_le _, rfl, World.ownsRow_nil _ _ _ _, Below.refl _ _⟩
    case round =>
      obtain ⟨j, hj, rfl, hown, hb⟩ := hrel
      by_cases hjm : j < m
      · obtain ⟨g, o, rfl, hPg, hlt, hc⟩ := HA.out (by omega)
        obtain ⟨x, hx⟩ : ∃ x, l[k + j]? = some x := ⟨_, List.getElem?_eq_getElem (by rw [HN.out]; omega)⟩
        have hc1 : wr.cell? ⟨g, o + (k + j), none⟩ = some (.int .i64 x) := (hb.cell (p := ⟨g, o + (k + j), none⟩) hlt).trans (hc _ _ (ints_some hx))
        have ht : (l.drop k).take (j + 1) = (l.drop k).take j ++ [x] := by
          rw [List.take_add_one, List.getElem?_drop, hx]; rfl
        have HT := Lib.hid ht
        clear hx hc ht
        go_wp2_with (at_builtin
                     refine wpList_append_own _ rfl (.tmp 23) (.tmp 30) 30 rfl w.heap.size 3 i0 _ 1 8 Try.underlying30 hi0 hz0 hz1 hz2 rfl (by omega) _ _ _ rfl (hown.alloc _)
                       ⟨_, 0, none⟩ 1 1 [.int .i64 x] rfl rfl (cell_one_new _ _ _) (by intro u hu; simp at hu; subst hu; rfl) (by unfold maxLen; omega) (by omega) (by simp; have := hb.size; omega) ?_
                     intro v1 w1 hown1 hg1 _)
        go_roundw
        case rel =>
          refine ⟨j + 1, by omega, by go_num, ?_, (hb.alloc hb.size _).grown hg1 (by simp; have := hb.size; omega) (fun q hq => (hown.lt q hq).1)⟩
          rw [HT.out, ints_append]
          exact hown1
        case measure => simp [intOf]; omega
      · obtain rfl : j = m := by omega
        go_wp2
        go_ret2
        exact ⟨_, rfl, Lies.of_own hown, hb⟩
  · have hs : spanL l a n = [] := by unfold spanL; rw [if_neg hE]
    have hb : (runE (l.length : Int) a n != 0) = true := by simpa using hE
    have rn := Lib.hid (rrun_any A l.length c a n w hl hn)
    have HS := Lib.hid hs; clear hs hA hE
    go_enter Try.func23, Try.ntmps23
    go_wp2_with (go_at_call 33; refine rn.out.mono ?_; rintro e w' ⟨rfl, rfl⟩)
    go_ret2
    refine ⟨_, rfl, ?_, Below.refl _ _⟩
    rw [HS.out]
    exact Lies.nil_ _ _

#print axioms rfill_any
#print axioms rspan_any
end Go.Proofs.Ytjdkbhmophnclaa
