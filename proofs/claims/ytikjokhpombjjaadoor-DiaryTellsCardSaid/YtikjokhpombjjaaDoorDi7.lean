/-
  Layer 19 (diary): the reference's alike, Same.
  Conditions: those that each theorem states.
-/
import Derived.Test.YtikjokhpombjjaaDoorDiA
namespace Go.Proofs.YtikjokhpombjjaaDoor
open Go.ChangeShapes Go.WideShapes Go.ChangeAt Go.RowKit

theorem en_ne {a b : En} (h : a.core ≠ b.core ∨ a.peer ≠ b.peer ∨ a.kind ≠ b.kind ∨ a.beg ≠ b.beg ∨ a.fin ≠ b.fin ∨ a.err ≠ b.err ∨ a.hnd ≠ b.hnd ∨ a.load ≠ b.load) : decide (a = b) = false := by
  rw [decide_eq_false_iff_not]
  rintro rfl
  simp at h
theorem en_eq {a b : En} (h0 : a.core = b.core) (h1 : a.peer = b.peer) (h2 : a.kind = b.kind) (h3 : a.beg = b.beg) (h4 : a.fin = b.fin) (h5 : a.err = b.err) (h6 : a.hnd = b.hnd) : decide (a = b) = decide (a.load = b.load) := by
  obtain ⟨a0, a1, a2, a3, a4, a5, al, a6⟩ := a
  obtain ⟨b0, b1, b2, b3, b4, b5, bl, b6⟩ := b
  simp only at h0 h1 h2 h3 h4 h5 h6
  subst h0 h1 h2 h3 h4 h5 h6
  by_cases h : al = bl <;> simp [h]

set_option maxRecDepth 100000 in
set_option maxHeartbeats 4000000 in
theorem ralike19_any (a b : En) (u v : Value) (w : World) (hu : Ld w a u) (hv : Ld w b v) (ha : a.load.length ≤ 65536) (hb : b.load.length ≤ 65536) :
    Calls Tryd.prog 25 #[.agg (row19 a u).toArray, .agg (row19 b v).toArray] w fun e w' => e = .returned (.bool (decide (a = b))) ∧ Below w.heap.size w w' := by
  obtain ⟨A, n, c, rfl, HN, HU⟩ := ld_open hu
  obtain ⟨B, m, d, rfl, HM, HV⟩ := ld_open hv
  rw [HN.out] at ha
  rw [HM.out] at hb
  clear hu hv
  have R1 : Hid (Row ((w.alloc (.cells (row19 a (.slice A n c)).toArray 41)).alloc (.cells (row19 b (.slice B m d)).toArray 41)) w.heap.size 41 (row19 a (.slice A n c))) := Lib.hid ((Row.new w 41 (row19 a (.slice A n c)).toArray).below (below_al _ _))
  have R2 : Hid (Row ((w.alloc (.cells (row19 a (.slice A n c)).toArray 41)).alloc (.cells (row19 b (.slice B m d)).toArray 41)) (w.heap.size + 1) 41 (row19 b (.slice B m d))) := Lib.hid (by have := Row.new (w.alloc (.cells (row19 a (.slice A n c)).toArray 41)) 41 (row19 b (.slice B m d)).toArray; rwa [size_al] at this)
  have BB : Hid (Below w.heap.size w ((w.alloc (.cells (row19 a (.slice A n c)).toArray 41)).alloc (.cells (row19 b (.slice B m d)).toArray 41))) := Lib.hid (below_on (below_al _ _) (below_al _ _))
  simp only [row19] at R1 R2 BB ⊢
  by_cases h0 : a.core = b.core
  case neg =>
    have n0 : (a.core != b.core) = true := by simpa using h0
    have HF := Lib.hid (en_ne (a := a) (b := b) (.inl h0))
    clear h0
    go_enter Tryd.func25, Tryd.ntmps25
    go_wp2
    go_ret
    exact ⟨by rw [HF.out]; rfl, BB.out⟩
  have n0 : (a.core != b.core) = false := by simpa using h0
  have H0 := Lib.hid h0
  clear h0
  by_cases h1 : a.peer = b.peer
  case neg =>
    have n1 : (a.peer != b.peer) = true := by simpa using h1
    have HF := Lib.hid (en_ne (a := a) (b := b) (.inr (.inl h1)))
    clear h1
    go_enter Tryd.func25, Tryd.ntmps25
    go_wp2
    go_ret
    exact ⟨by rw [HF.out]; rfl, BB.out⟩
  have n1 : (a.peer != b.peer) = false := by simpa using h1
  have H1 := Lib.hid h1
  clear h1
  by_cases h2 : a.kind = b.kind
  case neg =>
    have n2 : (a.kind != b.kind) = true := by simpa using h2
    have HF := Lib.hid (en_ne (a := a) (b := b) (.inr (.inr (.inl h2))))
    clear h2
    go_enter Tryd.func25, Tryd.ntmps25
    go_wp2
    go_ret
    exact ⟨by rw [HF.out]; rfl, BB.out⟩
  have n2 : (a.kind != b.kind) = false := by simpa using h2
  have H2 := Lib.hid h2
  clear h2
  by_cases h3 : a.beg = b.beg
  case neg =>
    have n3 : (a.beg != b.beg) = true := by simpa using h3
    have HF := Lib.hid (en_ne (a := a) (b := b) (.inr (.inr (.inr (.inl h3)))))
    clear h3
    go_enter Tryd.func25, Tryd.ntmps25
    go_wp2
    go_ret
    exact ⟨by rw [HF.out]; rfl, BB.out⟩
  have n3 : (a.beg != b.beg) = false := by simpa using h3
  have H3 := Lib.hid h3
  clear h3
  by_cases h4 : a.fin = b.fin
  case neg =>
    have n4 : (a.fin != b.fin) = true := by simpa using h4
    have HF := Lib.hid (en_ne (a := a) (b := b) (.inr (.inr (.inr (.inr (.inl h4))))))
    clear h4
    go_enter Tryd.func25, Tryd.ntmps25
    go_wp2
    go_ret
    exact ⟨by rw [HF.out]; rfl, BB.out⟩
  have n4 : (a.fin != b.fin) = false := by simpa using h4
  have H4 := Lib.hid h4
  clear h4
  by_cases h5 : a.err = b.err
  case neg =>
    have n5 : (a.err != b.err) = true := by simpa using h5
    have HF := Lib.hid (en_ne (a := a) (b := b) (.inr (.inr (.inr (.inr (.inr (.inl h5)))))))
    clear h5
    go_enter Tryd.func25, Tryd.ntmps25
    go_wp2
    go_ret
    exact ⟨by rw [HF.out]; rfl, BB.out⟩
  have n5 : (a.err != b.err) = false := by simpa using h5
  have H5 := Lib.hid h5
  clear h5
  by_cases h6 : a.hnd = b.hnd
  case neg =>
    have n6 : (a.hnd != b.hnd) = true := by simpa using h6
    have HF := Lib.hid (en_ne (a := a) (b := b) (.inr (.inr (.inr (.inr (.inr (.inr (.inl h6))))))))
    clear h6
    go_enter Tryd.func25, Tryd.ntmps25
    go_wp2
    go_ret
    exact ⟨by rw [HF.out]; rfl, BB.out⟩
  have n6 : (a.hnd != b.hnd) = false := by simpa using h6
  have H6 := Lib.hid h6
  clear h6
  have HE := Lib.hid (en_eq H0.out H1.out H2.out H3.out H4.out H5.out H6.out)
  clear H0 H1 H2 H3 H4 H5 H6
  by_cases hl : n = m
  case neg =>
    have n7 : ((n : Int) != (m : Int)) = true := by simpa using (by omega : (n : Int) ≠ m)
    have HF : Hid (decide (a = b) = false) := Lib.hid (by rw [HE.out, decide_eq_false_iff_not]; intro h; exact hl (by rw [← HN.out, ← HM.out, h]))
    clear hl
    go_enter Tryd.func25, Tryd.ntmps25
    go_wp2
    go_ret
    exact ⟨by rw [HF.out]; rfl, BB.out⟩
  subst hl
  go_enter Tryd.func25, Tryd.ntmps25
  go_wp2
  go_loopw [5] (fun iv wr => ∃ k : Nat, k ≤ n ∧ iv = .int .i64 k ∧ Hid (a.load.take k = b.load.take k) ∧ Hid (Row wr w.heap.size 41 (row19 a (.slice A n c))) ∧ Hid (Row wr (w.heap.size + 1) 41 (row19 b (.slice B n d))) ∧ Hid (Below w.heap.size w wr)) (fun iv _ => n - (intOf iv).toNat)
  case atStart => exact ⟨0, Nat.zero_le _, rfl, by unfold Hid; simp, R1, R2, BB⟩
  case round =>
    obtain ⟨k, hk, rfl, HT, Q1, Q2, HB⟩ := hrel
    have q1 := Q1.out.cell 6
    have q2 := Q2.out.cell 6
    simp only [row19, List.getElem?_cons_zero, List.getElem?_cons_succ] at q1 q2
    by_cases hlt : k < n
    · obtain ⟨x, hx⟩ : ∃ x, a.load[k]? = some x := ⟨_, List.getElem?_eq_getElem (by rw [HN.out]; exact hlt)⟩
      obtain ⟨y, hy⟩ : ∃ y, b.load[k]? = some y := ⟨_, List.getElem?_eq_getElem (by rw [HM.out]; exact hlt)⟩
      obtain ⟨g, o, rfl, hg, c1⟩ := ld_at (HU.out.below HB.out) hx
      obtain ⟨g', o', rfl, hg', c2⟩ := ld_at (HV.out.below HB.out) hy
      have hkn : (k : Int) < (n : Int) := by omega
      have A1 := Lib.hid hx
      have B1 := Lib.hid hy
      clear hx hy
      by_cases he : x = y
      · subst he
        go_wp2
        go_quiet (fail)
        go_wp2
        go_roundw
        case rel => exact ⟨k + 1, by omega, by go_num, Lib.hid (take_more HT.out A1.out B1.out), Lib.hid (Q1.out.drewN _), Lib.hid (Q2.out.drewN _), Lib.hid (below_dn HB.out _)⟩
        case measure => simp [intOf]; omega
      · have hne : (x != y) = true := by simpa using he
        have HF : Hid (decide (a = b) = false) := Lib.hid (by
          rw [HE.out, decide_eq_false_iff_not]
          intro h
          have h1 := A1.out
          rw [h, B1.out] at h1
          exact he (Option.some.inj h1).symm)
        clear he
        go_wp2
        go_quiet (fail)
        go_wp2
        go_ret
        exact ⟨by rw [HF.out]; rfl, below_dn HB.out _⟩
    · obtain rfl : k = n := by omega
      have HF : Hid (decide (a = b) = true) := Lib.hid (by rw [HE.out, decide_eq_true_iff]; exact take_whole HT.out HN.out HM.out)
      go_wp2
      go_ret
      exact ⟨by rw [HF.out]; rfl, HB.out⟩

set_option maxRecDepth 100000 in
set_option maxHeartbeats 4000000 in
theorem rsame19_any (la lb : List En) (u v : Value) (w : World) (hu : Ens w u la) (hv : Ens w v lb) (ha : la.length ≤ 1000) (hb : lb.length ≤ 1000) (hla : ∀ x ∈ la, x.load.length ≤ 65536) (hlb : ∀ x ∈ lb, x.load.length ≤ 65536) :
    Calls Tryd.prog 14 #[u, v] w fun e w' => e = .returned (.bool (decide (la = lb))) ∧ Below w.heap.size w w' := by
  obtain ⟨A, n, c, rfl, HN, HU⟩ := hu.open_
  obtain ⟨B, m, d, rfl, HM, HV⟩ := hv.open_
  rw [HN.out] at ha
  rw [HM.out] at hb
  have HA := Lib.hid hla
  have HB0 := Lib.hid hlb
  clear hu hv hla hlb
  by_cases hl : n = m
  · subst hl
    go_enter Tryd.func14, Tryd.ntmps14
    go_wp2
    go_loopw [5] (fun iv wr => ∃ k : Nat, k ≤ n ∧ iv = .int .i64 k ∧ Hid (la.take k = lb.take k) ∧ Hid (Below w.heap.size w wr)) (fun iv _ => n - (intOf iv).toNat)
    case atStart => exact ⟨0, Nat.zero_le _, rfl, by unfold Hid; simp, Lib.hid (Below.refl _ _)⟩
    case round =>
      obtain ⟨k, hk, rfl, HT, HB⟩ := hrel
      by_cases hlt : k < n
      · obtain ⟨x, hx⟩ : ∃ x, la[k]? = some x := ⟨_, List.getElem?_eq_getElem (by rw [HN.out]; exact hlt)⟩
        obtain ⟨y, hy⟩ : ∃ y, lb[k]? = some y := ⟨_, List.getElem?_eq_getElem (by rw [HM.out]; exact hlt)⟩
        obtain ⟨g, o, u1, rfl, hg, lx, c0, c1, c2, c3, c4, c5, c6, c7⟩ := (HU.out.below HB.out).cells hx
        obtain ⟨g', o', u2, rfl, hg', ly, d0, d1, d2, d3, d4, d5, d6, d7⟩ := (HV.out.below HB.out).cells hy
        have KX := Lib.hid (fun (W : World) (h : Below wr.heap.size wr W) => ralike19_any x y u1 u2 W (lx.below h) (ly.below h) (HA.out x (List.mem_of_getElem? hx)) (HB0.out y (List.mem_of_getElem? hy)))
        have hkn : (k : Int) < (n : Int) := by omega
        obtain ⟨Ax, nx, cx, rfl, _, _⟩ := ld_open lx
        obtain ⟨Ay, ny, cy, rfl, _, _⟩ := ld_open ly
        have A1 := Lib.hid hx
        have B1 := Lib.hid hy
        clear hx hy lx ly
        simp only [row19] at KX
        by_cases he : x = y
        · have EQ : decide (x = y) = true := by simpa using he
          have HX : Hid (la.take (k + 1) = lb.take (k + 1)) := Lib.hid (by rw [List.take_add_one, List.take_add_one, A1.out, B1.out, HT.out, he])
          clear he
          go_wp2
          go_region_with (go_at_call 25; refine (KX.out _ (show Below wr.heap.size wr _ from by go_grown)).mono ?_; rintro e w1 ⟨rfl, b1⟩; have B2 := Lib.hid (below_on (show Below wr.heap.size wr _ from by go_grown) b1); rw [EQ]; clear b1)
          all_goals (
            go_wp2
            go_roundw
            case rel => exact ⟨k + 1, by omega, by go_num, HX, Lib.hid (below_on HB.out (show Below wr.heap.size wr _ from by first | exact B2.out | exact below_dn B2.out _))⟩
            case measure => simp [intOf]; omega)
        · have EQ : decide (x = y) = false := by simpa using he
          have HX : Hid (decide (la = lb) = false) := Lib.hid (by
            rw [decide_eq_false_iff_not]
            intro h
            have h1 := A1.out
            rw [h, B1.out] at h1
            exact he (Option.some.inj h1).symm)
          clear he
          go_wp2
          go_region_with (go_at_call 25; refine (KX.out _ (show Below wr.heap.size wr _ from by go_grown)).mono ?_; rintro e w1 ⟨rfl, b1⟩; have B2 := Lib.hid (below_on (show Below wr.heap.size wr _ from by go_grown) b1); rw [EQ]; clear b1)
          all_goals (
            go_wp2
            go_ret
            exact ⟨by rw [HX.out]; rfl, below_on HB.out (show Below wr.heap.size wr _ from by first | exact B2.out | exact below_dn B2.out _)⟩)
      · obtain rfl : k = n := by omega
        have HX : Hid (decide (la = lb) = true) := Lib.hid (by
          rw [decide_eq_true_iff]
          have h1 : la.take k = la := by rw [← HN.out, List.take_length]
          have h2 : lb.take k = lb := by rw [← HM.out, List.take_length]
          rw [← h1, ← h2, HT.out])
        go_wp2
        go_ret
        exact ⟨by rw [HX.out]; rfl, HB.out⟩
  · have n7 : ((n : Int) != (m : Int)) = true := by simpa using (by omega : (n : Int) ≠ m)
    have HX : Hid (decide (la = lb) = false) := Lib.hid (by
      rw [decide_eq_false_iff_not]
      rintro rfl
      exact hl (HN.out.symm.trans HM.out))
    clear hl
    go_enter Tryd.func14, Tryd.ntmps14
    go_wp2
    go_ret
    exact ⟨by rw [HX.out]; rfl, Below.refl _ _⟩

#print axioms ralike19_any
#print axioms rsame19_any
end Go.Proofs.YtikjokhpombjjaaDoor
