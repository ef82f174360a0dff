/-
  Layer 8 (site): the walk of the law SiteBack.
  Conditions: none.
-/
import Derived.Test.YtbjmekedlmoolaaSite10
namespace Go.Proofs.Ytbjmekedlmoolaa
open Go.ChangeShapes Go.WideShapes Go.ChangeAt Go.RowKit

/-- What SiteBack keeps in memory. -/
def SB (w W : World) (c n l k i r : Int) : Prop :=
  Row W w.heap.size 23 [.int .i64 c, .int .i64 n, .int .i64 l] ∧ Row W (w.heap.size + 1) 25 [.int .i64 k, .int .i64 i, .int .i64 r] ∧ Below w.heap.size w W

theorem SB.below {w W W' : World} {c n l k i r : Int} (h : SB w W c n l k i r) (hb : Below W.heap.size W W') : SB w W' c n l k i r :=
  ⟨h.1.below hb, h.2.1.below hb, below_on h.2.2 hb⟩

theorem back_is {c n l k i r A : Int} (W : World) (h : Enc c n l k i r A true) :
    Calls Try.prog 6 #[v3 c n l, .int .i64 A] W fun e w' => e = .returned (.tuple #[v3 k i r, .bool true]) ∧ Below W.heap.size W w' := by
  rcases h with ⟨_, ho, hs⟩ | ⟨h, _⟩
  · refine dec_is W k i r true ?_ (.inl ⟨rfl, ho, hs⟩)
    unfold IsSpot at hs; unfold okPlan at ho; omega
  · cases h

set_option maxRecDepth 100000 in
set_option maxHeartbeats 4000000 in
theorem siteBack_any (c n l a k i r : Int) (w : World) (ha : a ≤ 9223372036854775807) :
    Calls Try.prog 5 #[v3 c n l, .int .i64 a, v3 k i r] w fun e w' => e = .returned (.bool true) ∧ Below w.heap.size w w' := by
  have HD := Lib.hid (fun W => decode8_any c n l a W ha)
  have HE2 := Lib.hid (encode8_any c n l k i r)
  have HDI := Lib.hid (fun A W => back_is (c := c) (n := n) (l := l) (k := k) (i := i) (r := r) (A := A) W)
  have HEI := Lib.hid (fun K I R W => enc_is (c := c) (n := n) (l := l) (k := K) (i := I) (r := R) W a true)
  have HT : Hid (SB w ((w.alloc (.cells #[.int .i64 c, .int .i64 n, .int .i64 l] 23)).alloc (.cells #[.int .i64 k, .int .i64 i, .int .i64 r] 25)) c n l k i r) := Lib.hid (two_boxes w c n l k i r)
  clear ha
  unfold v3 at HD HE2 HDI HEI ⊢
  go_enter Try.func5, Try.ntmps5
  go_wp2_with fail
  refine (HD.out _).mono ?_
  rintro e w1 ⟨⟨K, I, R, b, rfl, hd⟩, hb1⟩
  have H1 := Lib.hid (HT.out.below hb1)
  clear hb1
  have p0 := H1.out.1.cell 0
  have p1 := H1.out.1.cell 1
  have p2 := H1.out.1.cell 2
  have s0 := H1.out.2.1.cell 0
  have s1 := H1.out.2.1.cell 1
  have s2 := H1.out.2.1.cell 2
  have hlp := H1.out.1.lt
  have hls := H1.out.2.1.lt
  simp only [List.getElem?_cons_zero, List.getElem?_cons_succ] at p0 p1 p2 s0 s1 s2
  have H2 := Lib.hid (H1.out.below (below_al w1 (.cells #[.int .i64 K, .int .i64 I, .int .i64 R] 25)))
  cases b
  · clear hd
    go_wp2_with fail
    refine (HE2.out _).mono ?_
    rintro e x1 ⟨⟨A, B, rfl, he⟩, hbx⟩
    have T1 := Lib.hid (H2.out.below hbx)
    clear p0 p1 p2 s0 s1 s2 hlp hls
    clear hbx
    have p0 := T1.out.1.cell 0
    have p1 := T1.out.1.cell 1
    have p2 := T1.out.1.cell 2
    have s0 := T1.out.2.1.cell 0
    have s1 := T1.out.2.1.cell 1
    have s2 := T1.out.2.1.cell 2
    have hlp := T1.out.1.lt
    have hls := T1.out.2.1.lt
    simp only [List.getElem?_cons_zero, List.getElem?_cons_succ] at p0 p1 p2 s0 s1 s2
    cases B
    · have hA : A = 0 := by
        rcases he with ⟨h, _⟩ | ⟨_, h, _⟩
        · cases h
        · exact h
      subst hA
      clear he
      go_wp2_with fail
      refine (alive8 _).mono ?_
      rintro e x2 ⟨rfl, hb2⟩
      go_wp2
      go_ret
      exact ⟨rfl, below_on T1.out.2.2 hb2⟩
    · have DI := Lib.hid (fun W => HDI.out A W he)
      clear he
      go_wp2_with fail
      refine (DI.out _).mono ?_
      rintro e x2 ⟨rfl, hb2⟩
      have T2 := Lib.hid ((T1.out.below hb2).below (below_al x2 (.cells #[.int .i64 k, .int .i64 i, .int .i64 r] 25)))
      have T3 := Lib.hid (T1.out.below hb2)
      clear p0 p1 p2 s0 s1 s2 hb2 hlp hls
      have s0 := T3.out.2.1.cell 0
      have s1 := T3.out.2.1.cell 1
      have s2 := T3.out.2.1.cell 2
      have hls := T3.out.2.1.lt
      simp only [List.getElem?_cons_zero, List.getElem?_cons_succ] at s0 s1 s2
      try unfold v3
      go_wp2_with fail
      refine (alive8 _).mono ?_
      rintro e x3 ⟨rfl, hb3⟩
      go_wp2
      go_ret
      exact ⟨rfl, below_on T2.out.2.2 hb3⟩
  · have hs : okPlan c n l ∧ IsSpot c n l a K I R := hd.here
    have hk : 1 ≤ K ∧ K ≤ 4 := by have := hs.2; unfold IsSpot at this; omega
    have hk1 := hk.1
    have hk2 := hk.2
    have EI := Lib.hid (fun W => HEI.out K I R W (.inl ⟨rfl, hs.1, hs.2⟩))
    have HR1 := Lib.hid (row3 w1 25 K I R)
    clear hd hs hk
    go_wp2_with fail
    refine (EI.out _).mono ?_
    rintro e w2 ⟨rfl, hb2⟩
    have H3 := Lib.hid (H2.out.below hb2)
    have R3 := Lib.hid (HR1.out.below hb2)
    clear hb2 p0 p1 p2 s0 s1 s2 hlp hls
    have p0 := H3.out.1.cell 0
    have p1 := H3.out.1.cell 1
    have p2 := H3.out.1.cell 2
    have s0 := H3.out.2.1.cell 0
    have s1 := H3.out.2.1.cell 1
    have s2 := H3.out.2.1.cell 2
    have t0 := R3.out.cell 0
    have hlp := H3.out.1.lt
    have hls := H3.out.2.1.lt
    simp only [List.getElem?_cons_zero, List.getElem?_cons_succ] at p0 p1 p2 s0 s1 s2 t0
    go_wp2_with fail
    refine (HE2.out _).mono ?_
    rintro e x1 ⟨⟨A, B, rfl, he⟩, hbx⟩
    have T1 := Lib.hid (H3.out.below hbx)
    clear p0 p1 p2 s0 s1 s2 hlp hls t0
    clear hbx
    have p0 := T1.out.1.cell 0
    have p1 := T1.out.1.cell 1
    have p2 := T1.out.1.cell 2
    have s0 := T1.out.2.1.cell 0
    have s1 := T1.out.2.1.cell 1
    have s2 := T1.out.2.1.cell 2
    have hlp := T1.out.1.lt
    have hls := T1.out.2.1.lt
    simp only [List.getElem?_cons_zero, List.getElem?_cons_succ] at p0 p1 p2 s0 s1 s2
    cases B
    · have hA : A = 0 := by
        rcases he with ⟨h, _⟩ | ⟨_, h, _⟩
        · cases h
        · exact h
      subst hA
      clear he
      go_wp2_with fail
      refine (alive8 _).mono ?_
      rintro e x2 ⟨rfl, hb2⟩
      go_wp2
      go_ret
      exact ⟨rfl, below_on T1.out.2.2 hb2⟩
    · have DI := Lib.hid (fun W => HDI.out A W he)
      clear he
      go_wp2_with fail
      refine (DI.out _).mono ?_
      rintro e x2 ⟨rfl, hb2⟩
      have T2 := Lib.hid ((T1.out.below hb2).below (below_al x2 (.cells #[.int .i64 k, .int .i64 i, .int .i64 r] 25)))
      have T3 := Lib.hid (T1.out.below hb2)
      clear p0 p1 p2 s0 s1 s2 hb2 hlp hls
      have s0 := T3.out.2.1.cell 0
      have s1 := T3.out.2.1.cell 1
      have s2 := T3.out.2.1.cell 2
      have hls := T3.out.2.1.lt
      simp only [List.getElem?_cons_zero, List.getElem?_cons_succ] at s0 s1 s2
      try unfold v3
      go_wp2_with fail
      refine (alive8 _).mono ?_
      rintro e x3 ⟨rfl, hb3⟩
      go_wp2
      go_ret
      exact ⟨rfl, below_on T2.out.2.2 hb3⟩

#print axioms siteBack_any
end Go.Proofs.Ytbjmekedlmoolaa
