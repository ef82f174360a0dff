/-
  Layer 7 (litmus): the law LitmusGrows over programs in memory.
  Conditions: those that each theorem states.
-/
import Derived.Test.YtgljgpllooehkaaLit23
namespace Go.Proofs.Ytgljgpllooehkaa
open Go.ChangeShapes Go.WideShapes Go.ChangeAt Go.RowKit

theorem RightS.up {p : List (List Opn)} {N : Nat} (hN : N ≤ 3) : RightS p (N : Int) ↔ RightS p ((N + 1 : Nat) : Int) :=
  ⟨fun h => ⟨h.lo, h.hi, by omega, by omega, h.each, h.all⟩, fun h => ⟨h.lo, h.hi, by omega, by omega, h.each, h.all⟩⟩

set_option maxRecDepth 100000 in
set_option maxHeartbeats 2000000 in
theorem grows_main (N : Nat) (v : Value) (p : List (List Opn)) (w : World) (hp : Prg w v p) (hm : p.length ≤ 50) (hN : N ≤ 3) :
    Calls Try.prog 5 #[v, .int .i64 (N : Int)] w fun e w' => e = .returned (.bool true) ∧ Below w.heap.size w w' := by
  have CT := Lib.hid (count_any v p w hp (by omega))
  have HP := Lib.hid hp
  obtain ⟨A, cc, rfl, hA⟩ := hp
  clear hA
  obtain ⟨m, hme⟩ : ∃ m, p.length = m := ⟨_, rfl⟩
  rw [hme] at hm HP CT ⊢
  have HM := Lib.hid hme
  clear hme
  have t1 : decide (50 < m) = false := by simp; omega
  have t3 : decide ((N : Int) < 0) = false := by simp
  have t4 : decide (3 < N) = false := by simp; omega
  by_cases hR : RightS p (N : Int)
  · have OY := Lib.hid (outcomes_yes N (.slice A m cc) p w HP.out hR)
    have OZ := Lib.hid (fun W hb => outcomes_yes (N + 1) (.slice A m cc) p W (HP.out.below hb) ((RightS.up hN).1 hR))
    have HR := Lib.hid hR
    clear hR
    go_enter Try.func5, Try.ntmps5
    go_wp2_with fail
    refine CT.out.mono ?_
    rintro e w' ⟨z, rfl, rfl⟩
    by_cases hz : 5 < z
    · have t2 : decide (5 < z) = true := by simpa using hz
      go_wp2_with (go_at_call 10; refine (alive_any _).mono ?_; rintro e w6 ⟨rfl, hb6⟩)
      go_ret
      exact ⟨rfl, hb6⟩
    have t2 : decide (5 < z) = false := by simpa using hz
    go_wp2_with fail
    refine OY.out.mono ?_
    rintro e w1 ⟨lv, vs, L, rfl, hl, ho, hb, hmost⟩
    obtain ⟨lA, lc, elv⟩ := own_shape hl.own
    rw [elv] at hl ⊢
    have OZ1 := Lib.hid (OZ.out w1 hb)
    have LS := Lib.hid hl
    have HO := Lib.hid ho
    have B1 := Lib.hid hb
    have HMO := Lib.hid hmost
    clear hl ho hb hmost elv
    go_wp2_with fail
    refine OZ1.out.mono ?_
    rintro e w2 ⟨mv, us, M, rfl, hl2, ho2, hb2, hmost2⟩
    have L2 := Lib.hid hl2
    have H2 := Lib.hid ho2
    have B2 := Lib.hid (below_on B1.out hb2)
    have LS2 := Lib.hid (LS.out.below hb2)
    have HM2 := Lib.hid hmost2
    obtain ⟨n, hn⟩ : ∃ n, vs.length = n := ⟨_, rfl⟩
    have hn1 : n ≤ 14000000000 := by have h1 := LS.out.len; have h2 := HMO.out; unfold most at h2; omega
    have hn0 : 0 < n := by
      rw [← hn, LS.out.len]
      exact List.length_pos_iff.2 (HO.out.ne HR.out)
    rw [hn] at LS2 LS ⊢
    have HN := Lib.hid hn
    clear hl2 ho2 hb2 hmost2 hn
    go_wp2
    go_loopw [55] (fun idx wr => ∃ k : Nat, k ≤ n ∧ idx = .int .i64 k ∧ Below w2.heap.size w2 wr) (fun idx _ => n - (intOf idx).toNat)
    case atStart => exact ⟨0, Nat.zero_le _, rfl, Below.refl _ _⟩
    case round =>
      obtain ⟨k, hk, rfl, hbk⟩ := hrel
      by_cases hlt : k < n
      · obtain ⟨u, hu⟩ : ∃ u, vs[k]? = some u := ⟨_, List.getElem?_eq_getElem (by rw [HN.out]; exact hlt)⟩
        obtain ⟨l, hlk⟩ : ∃ l, L[k]? = some l := ⟨_, List.getElem?_eq_getElem (by rw [← LS2.out.len, HN.out]; exact hlt)⟩
        obtain ⟨g, c', hv, hgl, hcell⟩ := LS2.out.at_ hu
        injection hv with e1 e2 e3
        subst e1
        have d0 : wr.cell? ⟨g, k, none⟩ = some u := (hbk.cell (p := ⟨g, k, none⟩) hgl).trans hcell
        have sm1 := HO.out.small HR.out
        have sm2 := H2.out.small ((RightS.up hN).1 HR.out)
        have h3 := HR.out.hi
        have hin : l ∈ M := (H2.out.iff l).2 (((HO.out.iff l).1 (List.mem_of_getElem? hlk)).grow HR.out)
        have am := among_any w1.heap.size _ mv us M u l wr (L2.out.below hbk) (fun y hy => by rw [sm2 y hy]; omega) (by have h1 := L2.out.len; have h2 := HM2.out; unfold most at h2; omega) ((Lies.of_own (LS2.out.each k u l hu hlk)).below hbk) (by rw [sm1 l (List.mem_of_getElem? hlk)]; omega)
        rw [decide_eq_true hin] at am
        have AM := Lib.hid am
        have HBK := Lib.hid hbk
        clear hu hlk hcell e2 e3 hgl hbk sm1 sm2 h3 hin am
        go_wp2_with (go_at_call 19; refine AM.out.mono ?_; rintro e w5 ⟨rfl, hb5⟩)
        go_roundw
        case rel => exact ⟨k + 1, by omega, by go_num, HBK.out.trans (hb5.mono HBK.out.size)⟩
        case measure => simp [intOf]; omega
      · have HBK := Lib.hid hbk
        clear hbk
        go_wp2_with (go_at_call 10; refine (alive_any _).mono ?_; rintro e w6 ⟨rfl, hb6⟩)
        go_ret
        exact ⟨rfl, below_on (below_on B2.out HBK.out) hb6⟩
  · have ON := Lib.hid (outcomes_no (N : Int) (.slice A m cc) p w HP.out (by rw [HM.out]; omega) hR)
    have ON2 := Lib.hid (fun W hb => outcomes_no ((N + 1 : Nat) : Int) (.slice A m cc) p W (HP.out.below hb) (by rw [HM.out]; omega) (fun h => hR ((RightS.up hN).2 h)))
    clear hR
    go_enter Try.func5, Try.ntmps5
    go_wp2_with fail
    refine CT.out.mono ?_
    rintro e w' ⟨z, rfl, rfl⟩
    by_cases hz : 5 < z
    · have t2 : decide (5 < z) = true := by simpa using hz
      go_wp2_with (go_at_call 10; refine (alive_any _).mono ?_; rintro e w6 ⟨rfl, hb6⟩)
      go_ret
      exact ⟨rfl, hb6⟩
    have t2 : decide (5 < z) = false := by simpa using hz
    go_wp2_with fail
    refine ON.out.mono ?_
    rintro e w1 ⟨rfl, hb1⟩
    have ON3 := Lib.hid (ON2.out w1 hb1)
    have B1 := Lib.hid hb1
    clear hb1
    go_wp2_with fail
    refine ON3.out.mono ?_
    rintro e w2 ⟨rfl, hb2⟩
    go_wp2_with (go_at_call 10; refine (alive_any _).mono ?_; rintro e w6 ⟨rfl, hb6⟩)
    go_ret
    exact ⟨rfl, below_on (below_on B1.out hb2) hb6⟩

set_option maxRecDepth 100000 in
set_option maxHeartbeats 1000000 in
theorem grows_any (buf : Int) (v : Value) (p : List (List Opn)) (w : World) (hp : Prg w v p) :
    Calls Try.prog 5 #[v, .int .i64 buf] w fun e w' => e = .returned (.bool true) ∧ Below w.heap.size w w' := by
  by_cases hm : p.length ≤ 50
  · by_cases hb : 0 ≤ buf ∧ buf ≤ 3
    · obtain ⟨N, rfl⟩ := Int.eq_ofNat_of_zero_le hb.1
      exact grows_main N v p w hp hm (by omega)
    · have CT := Lib.hid (count_any v p w hp (by omega))
      obtain ⟨A, cc, rfl, hA⟩ := hp
      clear hA
      obtain ⟨m, hme⟩ : ∃ m, p.length = m := ⟨_, rfl⟩
      rw [hme] at hm CT ⊢
      clear hme
      have t1 : decide (50 < m) = false := by simp; omega
      by_cases h0 : buf < 0
      · have t3 : decide (buf < 0) = true := by simpa using h0
        clear hb
        go_enter Try.func5, Try.ntmps5
        go_wp2_with fail
        refine CT.out.mono ?_
        rintro e w' ⟨z, rfl, rfl⟩
        by_cases hz : 5 < z
        · have t2 : decide (5 < z) = true := by simpa using hz
          go_wp2_with (go_at_call 10; refine (alive_any _).mono ?_; rintro e w6 ⟨rfl, hb6⟩)
          go_ret
          exact ⟨rfl, hb6⟩
        · have t2 : decide (5 < z) = false := by simpa using hz
          go_wp2_with (go_at_call 10; refine (alive_any _).mono ?_; rintro e w6 ⟨rfl, hb6⟩)
          go_ret
          exact ⟨rfl, hb6⟩
      · have t3 : decide (buf < 0) = false := by simpa using h0
        have h4 : 3 < buf := by omega
        have t4 : decide (3 < buf) = true := by simpa using h4
        clear hb
        go_enter Try.func5, Try.ntmps5
        go_wp2_with fail
        refine CT.out.mono ?_
        rintro e w' ⟨z, rfl, rfl⟩
        by_cases hz : 5 < z
        · have t2 : decide (5 < z) = true := by simpa using hz
          go_wp2_with (go_at_call 10; refine (alive_any _).mono ?_; rintro e w6 ⟨rfl, hb6⟩)
          go_ret
          exact ⟨rfl, hb6⟩
        · have t2 : decide (5 < z) = false := by simpa using hz
          go_wp2_with (go_at_call 10; refine (alive_any _).mono ?_; rintro e w6 ⟨rfl, hb6⟩)
          go_ret
          exact ⟨rfl, hb6⟩
  · obtain ⟨A, cc, rfl, hA⟩ := hp
    clear hA
    obtain ⟨m, hme⟩ : ∃ m, p.length = m := ⟨_, rfl⟩
    rw [hme] at hm ⊢
    clear hme
    have t1 : decide (50 < m) = true := by simp; omega
    go_enter Try.func5, Try.ntmps5
    go_wp2_with (go_at_call 10; refine (alive_any _).mono ?_; rintro e w6 ⟨rfl, hb6⟩)
    go_ret
    exact ⟨rfl, hb6⟩

#print axioms grows_any
end Go.Proofs.Ytgljgpllooehkaa
