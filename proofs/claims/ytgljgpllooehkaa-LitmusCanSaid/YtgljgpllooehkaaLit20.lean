/-
  Layer 7 (litmus): Weak.
  Conditions: those that each theorem states.
-/
import Derived.Test.YtgljgpllooehkaaLit19
namespace Go.Proofs.Ytgljgpllooehkaa
open Go.ChangeShapes Go.WideShapes Go.ChangeAt Go.RowKit

set_option maxRecDepth 100000 in
set_option maxHeartbeats 400000 in
theorem closure_any (bx base : Nat) (sv : Value) (vs : List Value) (Ls : List (List Int)) (ov : Value) (x : List Int) (w : World) (hc : w.cell? ⟨bx, 0, none⟩ = some sv) (h : Lists w base sv vs Ls) (hne : vs ≠ []) (hr : Ls.Pairwise (fun a b => cmpL a b < 0)) (hl : ∀ l ∈ Ls, l.length ≤ 1000000) (hsz : vs.length < 4611686018427387904)
    (hx : ∀ W, Only (fun b => sv.ownBlock = some b) w W → IntsAt W ov x) :
    Calls Try.prog 35 #[ov, .pointer (some ⟨bx, 0, none⟩)] w fun e w' => e = .returned (.bool (!decide (x ∈ Ls))) ∧ Below w.heap.size w w' := by
  have HA := Lib.hid (has_any base sv vs Ls ov x w h hne hr hl hsz hx)
  obtain ⟨A, c, rfl⟩ := own_shape h.own
  obtain ⟨r, hre⟩ : ∃ r, decide (x ∈ Ls) = r := ⟨_, rfl⟩
  rw [hre] at HA ⊢
  clear hx hr hl h hre
  go_enter Try.func35, Try.ntmps35
  go_wp2_with (go_at_call 33; refine HA.out.mono ?_; rintro e w1 ⟨rfl, hb1⟩)
  go_ret
  exact ⟨rfl, hb1⟩

/-- The lists' own cells. -/
theorem Lists.at_ {w : World} {base : Nat} {v : Value} {vs : List Value} {Ls : List (List Int)} (h : Lists w base v vs Ls) {k : Nat} {u : Value} (hk : vs[k]? = some u) : ∃ g c, v = .slice (some ⟨g, 0, none⟩) vs.length c ∧ g < w.heap.size ∧ w.cell? ⟨g, k, none⟩ = some u := by
  have hlt := (List.getElem?_eq_some_iff.1 hk).1
  rcases h.own.2 with ⟨_, h0⟩ | ⟨g, cap, cur, rfl, hb, hg, hn, hm, hz, ht⟩
  · omega
  · refine ⟨g, cap, rfl, (Array.getElem?_eq_some_iff.1 hg).1, ?_⟩
    rw [cell_of_row w g k cur _ (0, 0) hg]
    rw [Nat.mul_one] at ht
    rw [← ht, List.getElem?_take, if_pos hlt] at hk
    simpa using hk

set_option maxRecDepth 100000 in
set_option maxHeartbeats 1000000 in
theorem index2_yes (bx base : Nat) (v : Value) (vs : List Value) (Ls : List (List Int)) (w : World) (h : Lists w base v vs Ls) (hl : vs.length ≤ 14000000000)
    (hf : ∀ (k : Nat) (u : Value), vs[k]? = some u → ∀ W, Below w.heap.size w W → Calls Try.prog 35 #[u, .pointer (some ⟨bx, 0, none⟩)] W fun e w' => e = .returned (.bool false) ∧ Below W.heap.size W w') :
    Calls Try.prog 43 #[v, .func (.func 35) #[] #[.pointer (some ⟨bx, 0, none⟩)]] w fun e w' => e = .returned (.int .i64 (-1)) ∧ Below w.heap.size w w' := by
  have H := Lib.hid h
  obtain ⟨A, c, rfl⟩ := own_shape h.own
  obtain ⟨n, hn⟩ : ∃ n, vs.length = n := ⟨_, rfl⟩
  rw [hn] at H hl ⊢
  have HN := Lib.hid hn
  have HF := Lib.hid hf
  clear h hf hn
  go_enter Try.func43, Try.ntmps43
  go_wp2
  go_loopw [8] (fun idx wr => ∃ k : Nat, k ≤ n ∧ idx = .int .i64 k ∧ Below w.heap.size w wr) (fun idx _ => n - (intOf idx).toNat)
  case atStart => exact ⟨0, Nat.zero_le _, rfl, Below.refl _ _⟩
  case round =>
    obtain ⟨k, hk, rfl, hb⟩ := hrel
    by_cases hlt : k < n
    · obtain ⟨u, hu⟩ : ∃ u, vs[k]? = some u := ⟨_, List.getElem?_eq_getElem (by rw [HN.out]; exact hlt)⟩
      obtain ⟨g, c', hv, hgl, hcell⟩ := H.out.at_ hu
      injection hv with e1 e2 e3
      subst e1
      have d0 : wr.cell? ⟨g, k, none⟩ = some u := (hb.cell (p := ⟨g, k, none⟩) hgl).trans hcell
      have CL := Lib.hid (HF.out k u hu wr hb)
      have HB := Lib.hid hb
      clear hu hcell e2 e3 hgl hb
      go_wp2_with (go_at_call 35; refine CL.out.mono ?_; rintro e w1 ⟨rfl, hb1⟩)
      go_roundw
      case rel => exact ⟨k + 1, by omega, by go_num, HB.out.trans (hb1.mono HB.out.size)⟩
      case measure => simp [intOf]; omega
    · go_wp2
      go_ret
      exact ⟨rfl, hb⟩

set_option maxRecDepth 100000 in
set_option maxHeartbeats 1000000 in
theorem index2_no (bx base : Nat) (v : Value) (vs : List Value) (Ls : List (List Int)) (w : World) (h : Lists w base v vs Ls) (hl : vs.length ≤ 14000000000) (i : Nat) (hi : i < vs.length)
    (hf : ∀ (k : Nat) (u : Value), vs[k]? = some u → k ≤ i → ∀ W, Below w.heap.size w W → Calls Try.prog 35 #[u, .pointer (some ⟨bx, 0, none⟩)] W fun e w' => e = .returned (.bool (decide (k = i))) ∧ Below W.heap.size W w') :
    Calls Try.prog 43 #[v, .func (.func 35) #[] #[.pointer (some ⟨bx, 0, none⟩)]] w fun e w' => e = .returned (.int .i64 (i : Int)) ∧ Below w.heap.size w w' := by
  have H := Lib.hid h
  obtain ⟨A, c, rfl⟩ := own_shape h.own
  obtain ⟨n, hn⟩ : ∃ n, vs.length = n := ⟨_, rfl⟩
  rw [hn] at H hl hi ⊢
  have HN := Lib.hid hn
  have HF := Lib.hid hf
  clear h hf hn
  go_enter Try.func43, Try.ntmps43
  go_wp2
  go_loopw [8] (fun idx wr => ∃ k : Nat, k ≤ i ∧ idx = .int .i64 k ∧ Below w.heap.size w wr) (fun idx _ => n - (intOf idx).toNat)
  case atStart => exact ⟨0, Nat.zero_le _, rfl, Below.refl _ _⟩
  case round =>
    obtain ⟨k, hk, rfl, hb⟩ := hrel
    have hlt : k < n := by omega
    obtain ⟨u, hu⟩ : ∃ u, vs[k]? = some u := ⟨_, List.getElem?_eq_getElem (by rw [HN.out]; exact hlt)⟩
    obtain ⟨g, c', hv, hgl, hcell⟩ := H.out.at_ hu
    injection hv with e1 e2 e3
    subst e1
    have d0 : wr.cell? ⟨g, k, none⟩ = some u := (hb.cell (p := ⟨g, k, none⟩) hgl).trans hcell
    have cl := HF.out k u hu hk wr hb
    have HB := Lib.hid hb
    by_cases hki : k = i
    · rw [decide_eq_true hki] at cl
      have CL := Lib.hid cl
      subst hki
      clear hu hcell e2 e3 hgl hb cl
      go_wp2_with (go_at_call 35; refine CL.out.mono ?_; rintro e w1 ⟨rfl, hb1⟩)
      go_ret
      exact ⟨rfl, HB.out.trans (hb1.mono HB.out.size)⟩
    · rw [decide_eq_false hki] at cl
      have CL := Lib.hid cl
      clear hu hcell e2 e3 hgl hb cl
      go_wp2_with (go_at_call 35; refine CL.out.mono ?_; rintro e w1 ⟨rfl, hb1⟩)
      go_roundw
      case rel => exact ⟨k + 1, by omega, by go_num, HB.out.trans (hb1.mono HB.out.size)⟩
      case measure => simp [intOf]; omega

theorem first_true : ∀ (l : List Bool), l.any id = true → ∃ i, i < l.length ∧ ∀ k b, l[k]? = some b → k ≤ i → b = decide (k = i)
  | [], h => by simp at h
  | true :: l, _ => ⟨0, by simp, fun k b hk hle => by
      obtain rfl : k = 0 := by omega
      simpa using hk.symm⟩
  | false :: l, h => by
    obtain ⟨i, hi, h1⟩ := first_true l (by simpa using h)
    refine ⟨i + 1, by simp; omega, fun k b hk hle => ?_⟩
    match k, hk with
    | 0, hk => simpa using hk.symm
    | k + 1, hk =>
      have := h1 k b (by simpa using hk) (by omega)
      rw [this]
      simp

set_option maxRecDepth 100000 in
set_option maxHeartbeats 1000000 in
theorem contains2_any (bx base : Nat) (v : Value) (vs : List Value) (Ls : List (List Int)) (f : List Int → Bool) (w : World) (h : Lists w base v vs Ls) (hl : vs.length ≤ 14000000000)
    (hf : ∀ (k : Nat) (u : Value) (l : List Int), vs[k]? = some u → Ls[k]? = some l → ∀ W, Below w.heap.size w W → Calls Try.prog 35 #[u, .pointer (some ⟨bx, 0, none⟩)] W fun e w' => e = .returned (.bool (f l)) ∧ Below W.heap.size W w') :
    Calls Try.prog 34 #[v, .func (.func 35) #[] #[.pointer (some ⟨bx, 0, none⟩)]] w fun e w' => e = .returned (.bool (Ls.any f)) ∧ Below w.heap.size w w' := by
  have lat : ∀ (k : Nat) (u : Value), vs[k]? = some u → ∃ l, Ls[k]? = some l := fun k u hk => ⟨_, List.getElem?_eq_getElem (by rw [← h.len]; exact (List.getElem?_eq_some_iff.1 hk).1)⟩
  cases ha : Ls.any f with
  | false =>
    have IX := Lib.hid (index2_yes bx base v vs Ls w h hl (fun k u hk W hW => by
      obtain ⟨l, hlk⟩ := lat k u hk
      have h1 := hf k u l hk hlk W hW
      have h2 : f l = false := by
        have := List.any_eq_false.1 ha l (List.mem_of_getElem? hlk)
        simpa using this
      rw [h2] at h1
      exact h1))
    obtain ⟨A, c, rfl⟩ := own_shape h.own
    clear h hf lat ha
    go_enter Try.func34, Try.ntmps34
    go_wp2_with (go_at_call 43; refine IX.out.mono ?_; rintro e w1 ⟨rfl, hb1⟩)
    go_ret
    exact ⟨rfl, hb1⟩
  | true =>
    obtain ⟨i, hi, h1⟩ := first_true (Ls.map f) (by simpa using ha)
    rw [List.length_map] at hi
    have i0 : (0 : Int) ≤ (i : Int) := by omega
    have IX := Lib.hid (index2_no bx base v vs Ls w h hl i (by rw [h.len]; exact hi) (fun k u hk hle W hW => by
      obtain ⟨l, hlk⟩ := lat k u hk
      have h3 := hf k u l hk hlk W hW
      rw [h1 k (f l) (by simp [hlk]) hle] at h3
      exact h3))
    obtain ⟨A, c, rfl⟩ := own_shape h.own
    clear h hf lat ha h1
    go_enter Try.func34, Try.ntmps34
    go_wp2_with (go_at_call 43; refine IX.out.mono ?_; rintro e w1 ⟨rfl, hb1⟩)
    go_ret
    exact ⟨by simp, hb1⟩

set_option maxRecDepth 100000 in
set_option maxHeartbeats 1000000 in
theorem weak_no (buf : Int) (v : Value) (p : List (List Opn)) (w : World) (hp : Prg w v p) (hm : p.length ≤ 1000000) (hR : ¬ RightS p buf) :
    Calls Try.prog 18 #[v, .int .i64 buf] w fun e w' => e = .returned (.bool false) ∧ Below w.heap.size w w' := by
  have ON := Lib.hid (outcomes_no buf v p w hp hm hR)
  obtain ⟨A, cc, rfl, hA⟩ := hp
  clear hA
  go_enter Try.func18, Try.ntmps18
  go_wp2_with fail
  refine ON.out.mono ?_
  rintro e w1 ⟨rfl, hb⟩
  go_wp2
  go_ret
  exact ⟨rfl, hb⟩

theorem RightS.zero {p : List (List Opn)} {buf : Int} (h : RightS p buf) : RightS p 0 := ⟨h.lo, h.hi, by omega, by omega, h.each, h.all⟩

set_option maxRecDepth 100000 in
set_option maxHeartbeats 2000000 in
theorem weak_yes (N : Nat) (v : Value) (p : List (List Opn)) (L L0 : List (List Int)) (w : World) (hp : Prg w v p) (hR : RightS p (N : Int)) (hL : Outs p N L) (hL0 : Outs p 0 L0) :
    Calls Try.prog 18 #[v, .int .i64 (N : Int)] w fun e w' => e = .returned (.bool (L.any fun x => !decide (x ∈ L0))) ∧ Below w.heap.size w w' := by
  have OY := Lib.hid (outcomes_yes N v p w hp hR)
  have OZ := Lib.hid (fun W hb => outcomes_yes 0 v p W (hp.below hb) hR.zero)
  have HL := Lib.hid hL
  have HL0 := Lib.hid hL0
  have HR := Lib.hid hR
  obtain ⟨A, cc, rfl, hA⟩ := hp
  obtain ⟨r, hre⟩ : ∃ r, (L.any fun x => !decide (x ∈ L0)) = r := ⟨_, rfl⟩
  rw [hre]
  have HRE := Lib.hid hre
  clear hA hL hL0 hR hre
  go_enter Try.func18, Try.ntmps18
  go_wp2_with fail
  refine OY.out.mono ?_
  rintro e w1 ⟨lv, vs, L', rfl, hl, ho, hb, hmost⟩
  have e1 := ho.eq HL.out
  subst e1
  have OZ1 := Lib.hid (OZ.out w1 hb)
  have LS := Lib.hid hl
  have HO := Lib.hid ho
  have B1 := Lib.hid hb
  have HMO := Lib.hid hmost
  clear hl ho hb hmost
  go_wp2_with fail
  refine OZ1.out.mono ?_
  rintro e w2 ⟨sv, vs0, L0', rfl, hl0, ho0, hb2, hmost0⟩
  have e2 := ho0.eq HL0.out
  subst e2
  obtain ⟨sA, sc, esv⟩ := own_shape hl0.own
  have hne0 : vs0 ≠ [] := fun e => ho0.ne HR.out.zero (by have := hl0.len; rw [e] at this; exact List.eq_nil_of_length_eq_zero this.symm)
  have hsm0 := ho0.small HR.out.zero
  have hcap0 : vs0.length < 4611686018427387904 := by have := hl0.len; unfold most at hmost0; omega
  have hbx : Below w2.heap.size w2 (w2.alloc (.cells #[sv] 28)) := below_al _ _
  have hcx : (w2.alloc (.cells #[sv] 28)).cell? ⟨w2.heap.size, 0, none⟩ = some sv := by
    rw [Row.cell (Row.new w2 28 #[sv]) 0]
    rfl
  have LSX := LS.out.below (below_on hb2 hbx)
  have L0X := hl0.below hbx
  have CO := contains2_any w2.heap.size w.heap.size lv vs L' (fun x => !decide (x ∈ L0')) (w2.alloc (.cells #[sv] 28)) LSX (by have h1 := LS.out.len; have h2 := HMO.out; unfold most at h2; omega) (fun k u l hk hlk W hW => by
    have hLW := L0X.below hW
    refine closure_any w2.heap.size w1.heap.size sv vs0 L0' u l W (by rw [hW.cell (p := ⟨w2.heap.size, 0, none⟩) (by simp)]; exact hcx) hLW hne0 ho0.rising (fun y hy => by rw [hsm0 y hy]; have := HR.out.hi; omega) hcap0 (fun W' hW' => ?_)
    have hr := (LSX.below hW).each k u l hk hlk
    exact IntsAt.of_own (own_only hr hW' (fun j hj e => own_types hr hLW.own (by decide) j hj e)))
  rw [HRE.out] at CO
  have CO' := Lib.hid CO
  have B2 := Lib.hid hb2
  clear hl0 ho0 hb2 hmost0 hne0 hsm0 hcap0 hbx hcx LSX L0X CO
  rw [esv] at CO' ⊢
  clear esv
  go_wp2_with (go_at_call 34; refine CO'.out.mono ?_; rintro e w4 ⟨rfl, hb4⟩)
  go_ret
  exact ⟨rfl, below_on (below_on (below_on B1.out B2.out) (below_al _ _)) hb4⟩

#print axioms weak_yes
end Go.Proofs.Ytgljgpllooehkaa
