/-
  Layer 19 (diary): the program's same, EqualFunc, Same.
  Conditions: those that each theorem states.
-/
import Derived.Test.YtikjokhpombjjaaDoorDi7
import Derived.Test.YtikjokhpombjjaaDoorEqual
namespace Go.Proofs.YtikjokhpombjjaaDoor
open Go.ChangeShapes Go.WideShapes Go.ChangeAt Go.RowKit

theorem en_eq6 {a b : En} (h0 : a.core = b.core) (h1 : a.peer = b.peer) (h2 : a.kind = b.kind) (h3 : a.beg = b.beg) (h4 : a.fin = b.fin) (h5 : a.err = b.err) : decide (a = b) = (decide (a.load = b.load) && (a.hnd == b.hnd)) := by
  obtain ⟨a0, a1, a2, a3, a4, a5, al, a6⟩ := a
  obtain ⟨b0, b1, b2, b3, b4, b5, bl, b6⟩ := b
  simp only at h0 h1 h2 h3 h4 h5
  subst h0 h1 h2 h3 h4 h5
  by_cases h : al = bl <;> by_cases h' : a6 = b6 <;> simp [h, h']

set_option maxRecDepth 100000 in
set_option maxHeartbeats 4000000 in
theorem same19_any (a b : En) (u v : Value) (w : World) (hu : Ld w a u) (hv : Ld w b v) (ha : a.load.length ≤ 65536) (hb : b.load.length ≤ 65536) :
    Calls Tryd.prog 31 #[.agg (row19 a u).toArray, .agg (row19 b v).toArray] w fun e w' => e = .returned (.bool (decide (a = b))) ∧ Below w.heap.size w w' := by
  have BB := Lib.hid (below_on (below_al w (.cells (row19 a u).toArray 38)) (below_al _ (.cells (row19 b v).toArray 38)))
  have KQ := Lib.hid (fun (W : World) (h : Below w.heap.size w W) => equal_quiet (fun _ => True) (fun _ => True) u v a.load b.load W (hu.below h).1 (hv.below h).1 ha hb)
  obtain ⟨A, n, c, rfl, _, _⟩ := ld_open hu
  obtain ⟨B, m, d, rfl, _, _⟩ := ld_open hv
  clear hu hv
  simp only [row19] at BB ⊢
  by_cases h0 : a.core = b.core
  case neg =>
    have n0 : (a.core == b.core) = false := by simpa using h0
    have HF := Lib.hid (en_ne (a := a) (b := b) (.inl h0))
    clear h0
    go_enter Tryd.func31, Tryd.ntmps31
    go_wp2
    go_ret
    exact ⟨by rw [HF.out]; rfl, BB.out⟩
  have n0 : (a.core == b.core) = true := by simpa using h0
  have H0 := Lib.hid h0
  clear h0
  by_cases h1 : a.peer = b.peer
  case neg =>
    have n1 : (a.peer == b.peer) = false := by simpa using h1
    have HF := Lib.hid (en_ne (a := a) (b := b) (.inr (.inl h1)))
    clear h1
    go_enter Tryd.func31, Tryd.ntmps31
    go_wp2
    go_ret
    exact ⟨by rw [HF.out]; rfl, BB.out⟩
  have n1 : (a.peer == b.peer) = true := by simpa using h1
  have H1 := Lib.hid h1
  clear h1
  by_cases h2 : a.kind = b.kind
  case neg =>
    have n2 : (a.kind == b.kind) = false := by simpa using h2
    have HF := Lib.hid (en_ne (a := a) (b := b) (.inr (.inr (.inl h2))))
    clear h2
    go_enter Tryd.func31, Tryd.ntmps31
    go_wp2
    go_ret
    exact ⟨by rw [HF.out]; rfl, BB.out⟩
  have n2 : (a.kind == b.kind) = true := by simpa using h2
  have H2 := Lib.hid h2
  clear h2
  by_cases h3 : a.beg = b.beg
  case neg =>
    have n3 : (a.beg == b.beg) = false := by simpa using h3
    have HF := Lib.hid (en_ne (a := a) (b := b) (.inr (.inr (.inr (.inl h3)))))
    clear h3
    go_enter Tryd.func31, Tryd.ntmps31
    go_wp2
    go_ret
    exact ⟨by rw [HF.out]; rfl, BB.out⟩
  have n3 : (a.beg == b.beg) = true := by simpa using h3
  have H3 := Lib.hid h3
  clear h3
  by_cases h4 : a.fin = b.fin
  case neg =>
    have n4 : (a.fin == b.fin) = false := by simpa using h4
    have HF := Lib.hid (en_ne (a := a) (b := b) (.inr (.inr (.inr (.inr (.inl h4))))))
    clear h4
    go_enter Tryd.func31, Tryd.ntmps31
    go_wp2
    go_ret
    exact ⟨by rw [HF.out]; rfl, BB.out⟩
  have n4 : (a.fin == b.fin) = true := by simpa using h4
  have H4 := Lib.hid h4
  clear h4
  by_cases h5 : a.err = b.err
  case neg =>
    have n5 : (a.err == b.err) = false := by simpa using h5
    have HF := Lib.hid (en_ne (a := a) (b := b) (.inr (.inr (.inr (.inr (.inr (.inl h5)))))))
    clear h5
    go_enter Tryd.func31, Tryd.ntmps31
    go_wp2
    go_ret
    exact ⟨by rw [HF.out]; rfl, BB.out⟩
  have n5 : (a.err == b.err) = true := by simpa using h5
  have H5 := Lib.hid h5
  clear h5
  have HE := Lib.hid (en_eq6 H0.out H1.out H2.out H3.out H4.out H5.out)
  clear H0 H1 H2 H3 H4 H5
  obtain ⟨q, hq⟩ : ∃ q, decide (a.load = b.load) = q := ⟨_, rfl⟩
  rw [hq] at HE KQ
  clear hq
  cases q with
  | false =>
    have HF : Hid (decide (a = b) = false) := Lib.hid (by rw [HE.out]; rfl)
    go_enter Tryd.func31, Tryd.ntmps31
    go_wp2_with (go_at_call 38; refine (KQ.out _ BB.out).mono ?_; rintro e w1 ⟨rfl, q, rfl⟩)
    go_ret
    exact ⟨by rw [HF.out]; rfl, below_dn BB.out _⟩
  | true =>
    obtain ⟨r, hr⟩ : ∃ r, (a.hnd == b.hnd) = r := ⟨_, rfl⟩
    have HF : Hid (decide (a = b) = r) := Lib.hid (by rw [HE.out, hr]; rfl)
    cases r <;> (
      go_enter Tryd.func31, Tryd.ntmps31
      go_wp2_with (go_at_call 38; refine (KQ.out _ BB.out).mono ?_; rintro e w1 ⟨rfl, q, rfl⟩)
      go_ret
      exact ⟨by rw [HF.out]; rfl, below_dn BB.out _⟩)

set_option maxRecDepth 100000 in
set_option maxHeartbeats 4000000 in
theorem eqfunc19_any (la lb : List En) (u v : Value) (w : World) (hu : Ens w u la) (hv : Ens w v lb) (ha : la.length ≤ 1000) (hb : lb.length ≤ 1000) (hla : ∀ x ∈ la, x.load.length ≤ 65536) (hlb : ∀ x ∈ lb, x.load.length ≤ 65536) :
    Calls Tryd.prog 30 #[u, v, .func (.func 31) #[] #[]] w fun e w' => e = .returned (.bool (decide (la = lb))) ∧ Below w.heap.size w w' := by
  obtain ⟨A, n, c, rfl, HN, HU⟩ := hu.open_
  obtain ⟨B, m, d, rfl, HM, HV⟩ := hv.open_
  rw [HN.out] at ha
  rw [HM.out] at hb
  have HA := Lib.hid hla
  have HB0 := Lib.hid hlb
  clear hu hv hla hlb
  by_cases hl : n = m
  · subst hl
    go_enter Tryd.func30, Tryd.ntmps30
    go_wp2
    go_loopw [17] (fun iv wr => ∃ k : Nat, k ≤ n ∧ iv = .int .i64 k ∧ Hid (la.take k = lb.take k) ∧ Hid (Below w.heap.size w wr)) (fun iv _ => n - (intOf iv).toNat)
    case atStart => exact ⟨0, Nat.zero_le _, rfl, by unfold Hid; simp, Lib.hid (Below.refl _ _)⟩
    case round =>
      obtain ⟨k, hk, rfl, HT, HB⟩ := hrel
      by_cases hlt : k < n
      · obtain ⟨x, hx⟩ : ∃ x, la[k]? = some x := ⟨_, List.getElem?_eq_getElem (by rw [HN.out]; exact hlt)⟩
        obtain ⟨y, hy⟩ : ∃ y, lb[k]? = some y := ⟨_, List.getElem?_eq_getElem (by rw [HM.out]; exact hlt)⟩
        obtain ⟨g, o, u1, rfl, hg, lx, c0, c1, c2, c3, c4, c5, c6, c7⟩ := (HU.out.below HB.out).cells hx
        obtain ⟨g', o', u2, rfl, hg', ly, d0, d1, d2, d3, d4, d5, d6, d7⟩ := (HV.out.below HB.out).cells hy
        have KX := Lib.hid (fun (W : World) (h : Below wr.heap.size wr W) => same19_any x y u1 u2 W (lx.below h) (ly.below h) (HA.out x (List.mem_of_getElem? hx)) (HB0.out y (List.mem_of_getElem? hy)))
        have hkn : (k : Int) < (n : Int) := by omega
        obtain ⟨Ax, nx, cx, rfl, _, _⟩ := ld_open lx
        obtain ⟨Ay, ny, cy, rfl, _, _⟩ := ld_open ly
        have A1 := Lib.hid hx
        have B1 := Lib.hid hy
        clear hx hy lx ly
        simp only [row19] at KX
        by_cases he : x = y
        · have EQ : decide (x = y) = true := by simpa using he
          have HX : Hid (la.take (k + 1) = lb.take (k + 1)) := Lib.hid (by rw [List.take_add_one, List.take_add_one, A1.out, B1.out, HT.out, he])
          clear he
          go_wp2_with (go_at_call 31; refine (KX.out _ (show Below wr.heap.size wr _ from by go_grown)).mono ?_; rintro e w1 ⟨rfl, b1⟩; have B2 := Lib.hid (below_on (show Below wr.heap.size wr _ from by go_grown) b1); rw [EQ]; clear b1)
          go_roundw
          case rel => exact ⟨k + 1, by omega, by go_num, HX, Lib.hid (below_on HB.out B2.out)⟩
          case measure => simp [intOf]; omega
        · have EQ : decide (x = y) = false := by simpa using he
          have HX : Hid (decide (la = lb) = false) := Lib.hid (by
            rw [decide_eq_false_iff_not]
            intro h
            have h1 := A1.out
            rw [h, B1.out] at h1
            exact he (Option.some.inj h1).symm)
          clear he
          go_wp2_with (go_at_call 31; refine (KX.out _ (show Below wr.heap.size wr _ from by go_grown)).mono ?_; rintro e w1 ⟨rfl, b1⟩; have B2 := Lib.hid (below_on (show Below wr.heap.size wr _ from by go_grown) b1); rw [EQ]; clear b1)
          go_ret
          exact ⟨by rw [HX.out]; rfl, below_on HB.out B2.out⟩
      · obtain rfl : k = n := by omega
        have HX : Hid (decide (la = lb) = true) := Lib.hid (by
          rw [decide_eq_true_iff]
          have h1 : la.take k = la := by rw [← HN.out, List.take_length]
          have h2 : lb.take k = lb := by rw [← HM.out, List.take_length]
          rw [← h1, ← h2, HT.out])
        go_wp2
        go_ret
        exact ⟨by rw [HX.out]; rfl, HB.out⟩
  · have n7 : ((n : Int) != (m : Int)) = true := by simpa using (by omega : (n : Int) ≠ m)
    have HX : Hid (decide (la = lb) = false) := Lib.hid (by
      rw [decide_eq_false_iff_not]
      rintro rfl
      exact hl (HN.out.symm.trans HM.out))
    clear hl
    go_enter Tryd.func30, Tryd.ntmps30
    go_wp2
    go_ret
    exact ⟨by rw [HX.out]; rfl, Below.refl _ _⟩

set_option maxRecDepth 100000 in
set_option maxHeartbeats 1000000 in
theorem psame19_any (la lb : List En) (u v : Value) (w : World) (hu : Ens w u la) (hv : Ens w v lb) (ha : la.length ≤ 1000) (hb : lb.length ≤ 1000) (hla : ∀ x ∈ la, x.load.length ≤ 65536) (hlb : ∀ x ∈ lb, x.load.length ≤ 65536) :
    Calls Tryd.prog 17 #[u, v] w fun e w' => e = .returned (.bool (decide (la = lb))) ∧ Below w.heap.size w w' := by
  have K := Lib.hid (eqfunc19_any la lb u v w hu hv ha hb hla hlb)
  obtain ⟨A, n, c, rfl, _, _⟩ := hu.open_
  obtain ⟨B, m, d, rfl, _, _⟩ := hv.open_
  clear hu hv
  obtain ⟨q, hq⟩ : ∃ q, decide (la = lb) = q := ⟨_, rfl⟩
  rw [hq] at K ⊢
  clear hq
  go_enter Tryd.func17, Tryd.ntmps17
  go_wp2_with (go_at_call 30; refine K.out.mono ?_; rintro e w1 ⟨rfl, b1⟩)
  go_ret
  exact ⟨rfl, b1⟩

#print axioms psame19_any
end Go.Proofs.YtikjokhpombjjaaDoor
