/-
  The walk of the law LitmusCan: it returns true for every input, and nothing that was there before the call changes; a slice of integers that came in.
  Conditions: the programs' lists are no longer than what a slice may hold.
-/
import Derived.Test.YtgljgpllooehkaaRLit19
import Derived.Test.YtgljgpllooehkaaLit20
import Derived.Test.YtgljgpllooehkaaLit23
namespace Go.Proofs.Ytgljgpllooehkaa
open Go.ChangeShapes Go.WideShapes Go.ChangeAt Go.RowKit

theorem Lies.intsAt {w : World} {P : Nat → Prop} {v : Value} {l : List Int} (h : Lies w P v (ints l)) : IntsAt w v l := by
  obtain ⟨A, c, rfl, hc⟩ := h
  refine ⟨A, c, by rw [ints_len], fun k x hk => ?_⟩
  obtain ⟨g, o, rfl, _, hlt, hcell⟩ := hc (by rw [ints_len]; have := (List.getElem?_eq_some_iff.1 hk).1; omega)
  exact ⟨⟨g, o, none⟩, rfl, hlt, by rw [Addr.add_lit]; exact hcell k _ (ints_some hk)⟩

set_option maxRecDepth 100000 in
set_option maxHeartbeats 2000000 in
theorem can_wrong (buf : Int) (v tv : Value) (x : List Int) (p : List (List Opn)) (w : World) (hp : Prg w v p) (hx : Lies w (fun _ => True) tv (ints x)) (hs : ∀ l ∈ p, l.length ≤ 4398046511104) (hm : p.length ≤ 50) (h5 : lenS p ≤ 5) (hxl : x.length ≤ 50) (hR : ¬ RightS p buf) :
    Calls Try.prog 4 #[v, .int .i64 buf, tv] w fun e w' => e = .returned (.bool true) ∧ Below w.heap.size w w' := by
  have each : ∀ l ∈ p, l.length ≤ 100 := fun l hl => by have := len_lenS hl; omega
  have CT := Lib.hid (count_sized v p w hp (by omega) hs)
  have PL0 := Lib.hid (plain_any v p w hp (by omega) each)
  have CA := Lib.hid (fun W (hb : Below w.heap.size w W) => can_no buf v tv p W (hp.below hb) (by omega) hR)
  have WE := Lib.hid (fun W (hb : Below w.heap.size w W) => weak_no buf v p W (hp.below hb) (by omega) hR)
  have RR := Lib.hid (fun (u : Value) W (hq : Prg W u p) => rright7_any buf u p W hq (by omega) each)
  rw [right_false hR] at RR
  have H5 := Lib.hid h5
  obtain ⟨A, cc, rfl, hA⟩ := hp
  obtain ⟨B, bc, rfl, hB⟩ := hx
  rw [ints_len] at CA ⊢
  clear hA hB hs hR each h5
  obtain ⟨m, hme⟩ : ∃ m, p.length = m := ⟨_, rfl⟩
  rw [hme] at hm CT PL0 CA WE ⊢
  clear hme
  obtain ⟨n, hn⟩ : ∃ n, x.length = n := ⟨_, rfl⟩
  rw [hn] at hxl CA ⊢
  clear hn
  have g1 : ¬ ((50 : Int) < (m : Int)) := by omega
  have t1 : decide (50 < m) = false := by simp; omega
  have g3 : ¬ ((50 : Int) < (n : Int)) := by omega
  have t3 : decide (50 < n) = false := by simp; omega
  go_enter Try.func4, Try.ntmps4
  go_wp2_with fail
  refine CT.out.mono ?_
  rintro e w' ⟨z, rfl, rfl, hz1, hz2⟩
  have hz : z ≤ 5 := by
    have := H5.out
    rcases Nat.lt_or_ge 100 z with h | h
    · have := hz2 h; omega
    · have := hz1 h; omega
  have t2 : decide (5 < z) = false := by simp; omega
  have t2' : decide ((5 : Int) < (z : Int)) = false := by simp; omega
  clear hz1 hz2 CT
  go_wp2_with fail
  refine PL0.out.mono ?_
  rintro e w1 ⟨q, rfl, hq, hb1⟩
  have Q1 := Lib.hid hq
  have B1 := Lib.hid hb1
  clear hq hb1 PL0
  go_wp2_with fail
  refine (RR.out q w1 Q1.out).mono ?_
  rintro e w2 ⟨rfl, hb2⟩
  have B2 := Lib.hid (below_on B1.out hb2)
  clear hb2
  go_wp2_with fail
  refine (CA.out _ B2.out).mono ?_
  rintro e w3 ⟨rfl, hb3⟩
  have B3 := Lib.hid (below_on B2.out hb3)
  clear hb3
  go_wp2_with fail
  refine (WE.out _ B3.out).mono ?_
  rintro e w4 ⟨rfl, hb4⟩
  have B4 := Lib.hid (below_on B3.out hb4)
  clear hb4
  go_wp2_with fail
  refine (alive_any _).mono ?_
  rintro e w7 ⟨rfl, hb7⟩
  have B7 := Lib.hid (below_on B4.out hb7)
  clear hb7
  go_wp2
  go_ret
  exact ⟨rfl, B7.out⟩

theorem any_more {L : List (List Int)} {k : Nat} {x : List Int} (h : L[k]? = some x) (f : List Int → Bool) : (L.take (k + 1)).any f = ((L.take k).any f || f x) := by
  rw [List.take_add_one, h, List.any_append]
  simp

set_option maxRecDepth 100000 in
set_option maxHeartbeats 4000000 in
theorem can_right (N : Nat) (v tv : Value) (x : List Int) (p : List (List Opn)) (w : World) (hp : Prg w v p) (hx : Lies w (fun _ => True) tv (ints x)) (hs : ∀ l ∈ p, l.length ≤ 4398046511104) (h5 : lenS p ≤ 5) (hxl : x.length ≤ 50) (hR : RightS p (N : Int)) :
    Calls Try.prog 4 #[v, .int .i64 (N : Int), tv] w fun e w' => e = .returned (.bool true) ∧ Below w.heap.size w w' := by
  have hm3 := hR.hi
  have each : ∀ l ∈ p, l.length ≤ 100 := fun l hl => by have := len_lenS hl; omega
  have CT := Lib.hid (count_sized v p w hp (by omega) hs)
  have PL0 := Lib.hid (plain_any v p w hp (by omega) each)
  have CA := Lib.hid (fun L (hL : Outs p N L) W (hb : Below w.heap.size w W) => can_yes N v tv p x L W (hp.below hb) hR hL (hx.intsAt.below hb))
  have WE := Lib.hid (fun L L0 (hL : Outs p N L) (hL0 : Outs p 0 L0) W (hb : Below w.heap.size w W) => weak_yes N v p L L0 W (hp.below hb) hR hL hL0)
  have RR := Lib.hid (fun (u : Value) W (hq : Prg W u p) => rright7_any (N : Int) u p W hq (by omega) each)
  have RO := Lib.hid (fun (u : Value) W (hq : Prg W u p) => routcomes_any N u p W hq hR)
  have RO0 := Lib.hid (fun (u : Value) W (hq : Prg W u p) => routcomes_any 0 u p W hq hR.zero)
  rw [(rightB_iff p N).2 hR] at RR
  have HR := Lib.hid hR
  have H5 := Lib.hid h5
  have HX := Lib.hid hx
  obtain ⟨A, cc, rfl, hA⟩ := hp
  obtain ⟨B, bc, rfl, hB⟩ := hx
  rw [ints_len] at CA HX ⊢
  clear hA hB hs hR each h5
  obtain ⟨m, hme⟩ : ∃ m, p.length = m := ⟨_, rfl⟩
  rw [hme] at hm3 CT PL0 CA WE ⊢
  have HM := Lib.hid hme
  clear hme
  obtain ⟨n, hn⟩ : ∃ n, x.length = n := ⟨_, rfl⟩
  rw [hn] at hxl CA HX ⊢
  have HXL := Lib.hid hn
  clear hn
  have g1 : ¬ ((50 : Int) < (m : Int)) := by omega
  have t1 : decide (50 < m) = false := by simp; omega
  have g3 : ¬ ((50 : Int) < (n : Int)) := by omega
  have t3 : decide (50 < n) = false := by simp; omega
  have t3' : decide ((50 : Int) < (n : Int)) = false := by simp; omega
  have t1' : decide ((50 : Int) < (m : Int)) = false := by simp; omega
  go_enter Try.func4, Try.ntmps4
  go_wp2_with fail
  refine CT.out.mono ?_
  rintro e w' ⟨z, rfl, rfl, hz1, hz2⟩
  have hz : z ≤ 5 := by
    have := H5.out
    rcases Nat.lt_or_ge 100 z with h | h
    · have := hz2 h; omega
    · have := hz1 h; omega
  have t2 : decide (5 < z) = false := by simp; omega
  have t2' : decide ((5 : Int) < (z : Int)) = false := by simp; omega
  clear hz1 hz2 CT
  go_wp2_with fail
  refine PL0.out.mono ?_
  rintro e w1 ⟨q, rfl, hq, hb1⟩
  have Q1 := Lib.hid hq
  have B1 := Lib.hid hb1
  clear hq hb1 PL0
  go_wp2_with fail
  refine (RR.out q w1 Q1.out).mono ?_
  rintro e w2 ⟨rfl, hb2⟩
  have Q2 := Lib.hid (Q1.out.below hb2)
  have B2 := Lib.hid (below_on B1.out hb2)
  clear hb2
  go_wp2_with fail
  refine (RO.out q w2 Q2.out).mono ?_
  rintro e w3 ⟨v3, vs3, L, rfl, hl3, ho3, hb3, hn3⟩
  have L3h := Lib.hid hl3
  have O3 := Lib.hid ho3
  have B3 := Lib.hid (below_on B2.out hb3)
  have Q3 := Lib.hid (Q2.out.below hb3)
  have hlen3 : vs3.length ≤ 13900000000 := by rw [hl3.len]; exact Nat.le_trans hn3 most_lt
  clear hl3 ho3 hb3 hn3
  go_wp2_with fail
  refine (RO0.out q w3 Q3.out).mono ?_
  rintro e w4 ⟨v4, vs4, L0, rfl, hl4, ho4, hb4, hn4⟩
  have L4h := Lib.hid hl4
  have L3k := Lib.hid (L3h.out.below hb4)
  have O4 := Lib.hid ho4
  have B4 := Lib.hid (below_on B3.out hb4)
  have hlen4 : vs4.length ≤ 14000000000 := by rw [hl4.len]; have := most_lt; omega
  have S3 := Lib.hid (show ∀ l ∈ L, l.length ≤ 65536 from fun l hl => by have := O3.out.small HR.out l hl; rw [HM.out] at this; omega)
  have S4 := Lib.hid (show ∀ l ∈ L0, l.length ≤ 65536 from fun l hl => by have := O4.out.small HR.out.zero l hl; rw [HM.out] at this; omega)
  clear hl4 ho4 hb4 hn4
  obtain ⟨vA, vc, e3⟩ := own_shape L3k.out.own
  subst e3
  obtain ⟨k3, hk3⟩ : ∃ n, vs3.length = n := ⟨_, rfl⟩
  rw [hk3] at hlen3 L3k ⊢
  have K3 := Lib.hid hk3
  clear hk3 L3h
  go_wp2
  go_loopw [10, 54] (fun bv iv wr => ∃ (k : Nat) (b : Bool), k ≤ k3 ∧ iv = .int .i64 (k : Int) ∧ bv = .bool b ∧ Hid ((L.take k).any (fun x => !decide (x ∈ L0)) = b) ∧ Hid (Below w4.heap.size w4 wr)) (fun _ iv _ => k3 - (intOf iv).toNat)
  case atStart => exact ⟨0, false, Nat.zero_le _, rfl, rfl, Lib.hid (by simp), Lib.hid (Below.refl _ _)⟩
  case round =>
    obtain ⟨k, b, hk, rfl, rfl, HBB, HB⟩ := hrel
    by_cases hlt : k < k3
    · obtain ⟨u, hu⟩ : ∃ u, vs3[k]? = some u := ⟨_, List.getElem?_eq_getElem (by rw [K3.out]; exact hlt)⟩
      have hL : L.length = k3 := by rw [← L3k.out.len, K3.out]
      obtain ⟨y, hy⟩ : ∃ y, L[k]? = some y := ⟨_, List.getElem?_eq_getElem (by rw [hL]; exact hlt)⟩
      have LW := L3k.out.below HB.out
      have hrow := LW.each k u y hu hy
      obtain ⟨g, c', eg, hgl, hcell⟩ := LW.at_ hu
      rw [K3.out] at eg
      injection eg with g1' _ g3'
      subst g1' g3'
      have AM := Lib.hid (among_any _ _ v4 vs4 L0 u y wr (L4h.out.below HB.out) S4.out hlen4 (Lies.of_own hrow) (S3.out y (List.mem_of_getElem? hy)))
      have MORE := Lib.hid (any_more hy (fun x => !decide (x ∈ L0)))
      have i0 : (0 : Int) ≤ (k : Int) := by omega
      have i1 : (k : Int) < (k3 : Int) := by omega
      clear hu hy hL LW hrow
      cases b with
      | true =>
        go_wp2
        go_roundw
        case rel => exact ⟨k + 1, true, by omega, by go_num, rfl, Lib.hid (by rw [MORE.out, HBB.out]; rfl), HB⟩
        case measure => simp [intOf]; omega
      | false =>
        go_wp2_with fail
        refine AM.out.mono ?_
        rintro e w5 ⟨rfl, hb5⟩
        have B5 := Lib.hid (below_on HB.out hb5)
        clear hb5
        go_wp2
        go_roundw
        case rel => exact ⟨k + 1, !decide (y ∈ L0), by omega, by go_num, rfl, Lib.hid (by rw [MORE.out, HBB.out]; rfl), B5⟩
        case measure => simp [intOf]; omega
    · obtain rfl : k = k3 := by omega
      have hall : L.take k = L := List.take_of_length_le (by rw [← L3k.out.len, K3.out]; exact Nat.le_refl _)
      rw [hall] at HBB
      have BW := Lib.hid (below_on B4.out HB.out)
      have CA1 := Lib.hid (CA.out L O3.out wr BW.out)
      clear hall hlt
      go_wp2_with fail
      refine CA1.out.mono ?_
      rintro e w5 ⟨rfl, hb5⟩
      have B5 := Lib.hid (below_on BW.out hb5)
      have AM := among_any _ _ _ vs3 L _ x w5 ((L3k.out.below HB.out).below hb5) S3.out (by rw [K3.out]; omega) (HX.out.below B5.out) (by rw [HXL.out]; omega)
      have AMH := Lib.hid AM
      obtain ⟨D, hD⟩ : ∃ D, decide (x ∈ L) = D := ⟨_, rfl⟩
      rw [hD] at AMH ⊢
      have d1 : (D == D) = true := by simp
      clear hb5 AM hD CA1
      go_wp2_with fail
      refine AMH.out.mono ?_
      rintro e w6 ⟨rfl, hb6⟩
      have B6 := Lib.hid (below_on B5.out hb6)
      have WE1 := WE.out L L0 O3.out O4.out w6 B6.out
      rw [HBB.out] at WE1
      have WEH := Lib.hid WE1
      have d2 : (b == b) = true := by simp
      clear hb6 WE1 AMH
      go_wp2_with fail
      refine WEH.out.mono ?_
      rintro e w7 ⟨rfl, hb7⟩
      have B7 := Lib.hid (below_on B6.out hb7)
      clear hb7
      go_wp2_with fail
      refine (alive_any _).mono ?_
      rintro e w8 ⟨rfl, hb8⟩
      have B8 := Lib.hid (below_on B7.out hb8)
      clear hb8
      go_wp2
      go_ret
      exact ⟨rfl, B8.out⟩

set_option maxRecDepth 100000 in
set_option maxHeartbeats 1000000 in
theorem can_any (buf : Int) (v tv : Value) (x : List Int) (p : List (List Opn)) (w : World) (hp : Prg w v p) (hx : Lies w (fun _ => True) tv (ints x)) (hs : ∀ l ∈ p, l.length ≤ 4398046511104) :
    Calls Try.prog 4 #[v, .int .i64 buf, tv] w fun e w' => e = .returned (.bool true) ∧ Below w.heap.size w w' := by
  by_cases hm : p.length ≤ 50
  · by_cases h5 : lenS p ≤ 5
    · by_cases hxl : x.length ≤ 50
      · by_cases hR : RightS p buf
        · obtain ⟨N, rfl⟩ := Int.eq_ofNat_of_zero_le hR.b0
          exact can_right N v tv x p w hp hx hs h5 hxl hR
        · exact can_wrong buf v tv x p w hp hx hs hm h5 hxl hR
      · have CT := Lib.hid (count_sized v p w hp (by omega) hs)
        have H5 := Lib.hid h5
        obtain ⟨A, cc, rfl, hA⟩ := hp
        obtain ⟨B, bc, rfl, hB⟩ := hx
        rw [ints_len]
        clear hA hB hs h5
        obtain ⟨m, hme⟩ : ∃ m, p.length = m := ⟨_, rfl⟩
        rw [hme] at hm CT ⊢
        clear hme
        obtain ⟨n, hn⟩ : ∃ n, x.length = n := ⟨_, rfl⟩
        rw [hn] at hxl ⊢
        clear hn
        have g1 : ¬ ((50 : Int) < (m : Int)) := by omega
        have t1 : decide (50 < m) = false := by simp; omega
        have g3 : (50 : Int) < (n : Int) := by omega
        have t3 : decide (50 < n) = true := by simp; omega
        go_enter Try.func4, Try.ntmps4
        go_wp2_with fail
        refine CT.out.mono ?_
        rintro e w' ⟨z, rfl, rfl, hz1, hz2⟩
        have hz : z ≤ 5 := by
          have := H5.out
          rcases Nat.lt_or_ge 100 z with h | h
          · have := hz2 h; omega
          · have := hz1 h; omega
        have t2 : decide (5 < z) = false := by simp; omega
        have t2' : decide ((5 : Int) < (z : Int)) = false := by simp; omega
        clear hz1 hz2 CT
        go_wp2_with (go_at_call 10; refine (alive_any _).mono ?_; rintro e w6 ⟨rfl, hb6⟩)
        go_ret
        exact ⟨rfl, hb6⟩
    · have CT := Lib.hid (count_sized v p w hp (by omega) hs)
      obtain ⟨A, cc, rfl, hA⟩ := hp
      clear hA hs hx
      obtain ⟨m, hme⟩ : ∃ m, p.length = m := ⟨_, rfl⟩
      rw [hme] at hm CT ⊢
      clear hme
      have g1 : ¬ ((50 : Int) < (m : Int)) := by omega
      have t1 : decide (50 < m) = false := by simp; omega
      go_enter Try.func4, Try.ntmps4
      go_wp2_with fail
      refine CT.out.mono ?_
      rintro e w' ⟨z, rfl, rfl, hz1, hz2⟩
      have hz3 : 5 < z := by
        rcases Nat.lt_or_ge 100 z with h | h
        · omega
        · have := hz1 h; omega
      have t2 : decide (5 < z) = true := by simp; omega
      have t2' : decide ((5 : Int) < (z : Int)) = true := by simp; omega
      clear hz1 hz2 h5 CT
      go_wp2_with (go_at_call 10; refine (alive_any _).mono ?_; rintro e w6 ⟨rfl, hb6⟩)
      go_ret
      exact ⟨rfl, hb6⟩
  · obtain ⟨A, cc, rfl, hA⟩ := hp
    clear hA hs hx
    obtain ⟨m, hme⟩ : ∃ m, p.length = m := ⟨_, rfl⟩
    rw [hme] at hm ⊢
    clear hme
    have t1 : decide (50 < m) = true := by simp; omega
    go_enter Try.func4, Try.ntmps4
    go_wp2_with (go_at_call 10; refine (alive_any _).mono ?_; rintro e w6 ⟨rfl, hb6⟩)
    go_ret
    exact ⟨rfl, hb6⟩

#print axioms can_any
end Go.Proofs.Ytgljgpllooehkaa
