/-
  Layer 6's law BusPlays: the walk.
  Conditions: those that each theorem states.
-/
import Derived.Test.YtoiaojpomhjlaaaBus19
import Derived.Test.YtoiaojpomhjlaaaArgs
namespace Go.Proofs.Ytoiaojpomhjlaaa
open Go.ChangeShapes Go.WideShapes Go.ChangeAt Go.RowKit

/-- Blocks that are neither the bus's nor block X. -/
def PB (L : Lay) (C X : Nat) (b : Nat) : Prop := ¬ L.fp C b ∧ b ≠ X

/-- The state of BusPlays: the bus, the reference's bus in block X. -/
structure Play6 (w wr : World) (L : Lay) (N C X n : Nat) (l : List Int) (qs : List (List (Int × Int))) (vr vb : Value) : Prop where
  on : OnBus w wr L N l qs
  ref : Row wr X 34 [vr, vb]
  rb : RBus wr (PB L C X) N l qs vr vb
  far : ¬ L.fp C X
  old : w.heap.size ≤ X
  cores : qs.length = C
  words : l.length = n

theorem Play6.below {w wr w' : World} {L : Lay} {N C X n : Nat} {l : List Int} {qs : List (List (Int × Int))} {vr vb : Value} (m : Play6 w wr L N C X n l qs vr vb) (hb : Below wr.heap.size wr w') : Play6 w w' L N C X n l qs vr vb :=
  ⟨m.on.below hb, m.ref.below hb, m.rb.below hb, m.far, m.old, m.cores, m.words⟩

/-- The program's bus and the reference's, each behind the same call, the reference's first. -/
structure Mid6 (w W : World) (L : Lay) (N C X : Nat) (l l2 : List Int) (qs qs2 : List (List (Int × Int))) (vr vb : Value) : Prop where
  on : OnBus w W L N l qs
  ref : Row W X 34 [vr, vb]
  rb : RBus W (PB L C X) N l2 qs2 vr vb
  far : ¬ L.fp C X
  old : w.heap.size ≤ X
  cores : qs.length = C

theorem Mid6.of {w wr w2 : World} {L : Lay} {N C X n : Nat} {l l2 : List Int} {qs qs2 : List (List (Int × Int))} {vr vb A B : Value} (m : Play6 w wr L N C X n l qs vr vb) (hb : Below wr.heap.size wr w2) (r2 : RBus w2 (PB L C X) N l2 qs2 A B) (o : Obj) :
    Mid6 w (((w2.setCell ⟨X, 0, none⟩ A).setCell ⟨X, 1, none⟩ B).alloc o) L N C X l l2 qs qs2 A B := by
  have hO := ((Only.refl (fun b => b = X) w2).setCell (p := ⟨X, 0, none⟩) (.inl rfl) A).setCell (p := ⟨X, 1, none⟩) (.inl rfl) B
  have hfar : ∀ b, L.fp qs.length b → ¬ b = X := fun b h e => m.far (by rw [m.cores] at h; rw [← e]; exact h)
  refine ⟨⟨((m.on.bus.below hb).only hO hfar).below (below_al _ _), m.on.new, ?_⟩, (((m.ref.below hb).put 0 A).put 1 B).below (below_al _ _), (r2.only hO (fun g e h => h.2 e)).below (below_al _ _), m.far, m.old, m.cores⟩
  exact below_on (((below_on m.on.bel hb).setCell (p := ⟨X, 0, none⟩) m.old A).setCell (p := ⟨X, 1, none⟩) m.old B) (below_al _ _)

theorem Mid6.step {w W w4 : World} {L : Lay} {N C X : Nat} {l l2 : List Int} {qs qs2 : List (List (Int × Int))} {vr vb a : Value} {e : Ending} (m : Mid6 w W L N C X l l2 qs qs2 vr vb) (hl : qs2.length = qs.length) (h : BusP L N l2 qs2 a W e w4) :
    ∃ f, e = .returned a ∧ Play6 w w4 (L.up f) N C X l2.length l2 qs2 vr vb := by
  obtain ⟨f, he, hm, ho, hx⟩ := m.on.step hl h
  rw [m.cores] at ho hx
  have hXW := m.ref.lt
  have q1 : RBus W (fun g => (¬ L.fp C g ∧ g ≠ X) ∧ g < W.heap.size) N l2 qs2 vr vb := m.rb.weak (fun g hg hp => ⟨hp, hg⟩)
  have q2 := (q1.only ho (fun g hg hp => hp.1.1 hg)).weak (Q := PB (L.up f) C X) (fun g _ hp => ⟨fun hf => (hx g hf).elim hp.1.1 (fun h => by have := hp.2; omega), hp.1.2⟩)
  exact ⟨f, he, hm, m.ref.only ho m.far, q2, fun hf => (hx X hf).elim m.far (fun h => by omega), m.old, hl.trans m.cores, rfl⟩

set_option maxRecDepth 100000 in
set_option maxHeartbeats 4000000 in
theorem busPlays_main (C n N : Nat) (v : Value) (R : List (List Int)) (w : World) (h0 : 1 ≤ C) (h1 : C ≤ 8) (hn0 : 1 ≤ n) (hn1 : n ≤ 200) (hN0 : 1 ≤ N) (hN1 : N ≤ 16) (hR : Recs w 4 v R) (hm : R.length ≤ 80) :
    Calls Try.prog 3 #[.int .i64 (C : Int), .int .i64 (n : Int), .int .i64 (N : Int), v] w fun e w' => e = .returned (.bool true) ∧ Below w.heap.size w w' := by
  have HR := Lib.hid hR
  obtain ⟨A, cc, rfl, hA⟩ := hR
  clear hA
  obtain ⟨m, hm'⟩ : ∃ m, R.length = m := ⟨_, rfl⟩
  rw [hm'] at hm HR ⊢
  have HM := Lib.hid hm'; clear hm'
  have NW := Lib.hid (new6_yes C n N w h0 h1 hn0 (by omega) hN0 hN1)
  have fw := few6_any (n : Int) A m cc w
  have hfew : (decide ((m : Int) ≤ 80) && decide ((n : Int) ≤ 200)) = true := by simp; omega
  rw [hfew] at fw
  have FW := Lib.hid fw
  clear fw hfew
  unfold ptr at NW
  go_enter Try.func3, Try.ntmps3
  go_wp2_with fail
  refine FW.out.mono ?_
  rintro e w' ⟨rfl, rfl⟩
  go_wp2_with fail
  refine NW.out.mono ?_
  rintro e w1 ⟨L, rfl, hr1, hn1', hb1⟩
  go_wp2_with fail
  refine (ris6_yes _ _ _ _ (by omega) (by omega) (by omega) (by omega) (by omega) (by omega)).mono ?_
  rintro e w' ⟨rfl, rfl⟩
  have rn := rnew6_yes (fun b => ¬ L.fp C b) C n N w1 h0 h1 hn0 (by omega) hN1 (fun b hb hf => by have := hr1.fp_lt (by rw [List.length_replicate]; exact hf); omega)
  have RN := Lib.hid rn
  have R1 := Lib.hid hr1
  have HN1 := Lib.hid hn1'
  have HB1 := Lib.hid hb1
  clear rn hr1 hn1' hb1
  go_wp2_with fail
  refine RN.out.mono ?_
  rintro e w2 ⟨A2, n2, c2, B2, m2, d2, rfl, hr2, hb2⟩
  simp only [id]
  have ST : Hid (Play6 w (w2.alloc (.cells #[.slice A2 n2 c2, .slice B2 m2 d2] 34)) (L.up L.hf) N C w2.heap.size n (List.replicate n 0) (List.replicate C []) (.slice A2 n2 c2) (.slice B2 m2 d2)) := Lib.hid (by
    refine ⟨⟨(R1.out.below hb2).below (below_al _ _), HN1.out, below_on (below_on HB1.out hb2) (below_al _ _)⟩, Row.new w2 34 #[.slice A2 n2 c2, .slice B2 m2 d2], (hr2.weak (Q := PB (L.up L.hf) C w2.heap.size) (fun g hg hp => ⟨hp, by omega⟩)).below (below_al _ _), fun hf => ?_, (below_on HB1.out hb2).size, by simp, by simp⟩
    have := R1.out.fp_lt (b := w2.heap.size) (by rw [List.length_replicate]; exact hf)
    have := hb2.size
    omega)
  clear hr2 hb2
  go_wp2_with fail
  generalize hX : w2.heap.size = X at ST ⊢
  generalize w2.alloc (.cells #[.slice A2 n2 c2, .slice B2 m2 d2] 34) = ws at ST ⊢
  go_loopw [57] (fun i wr => ∃ (k : Nat) (f : Nat → Option Nat) (l : List Int) (qs : List (List (Int × Int))), k ≤ m ∧ i = .int .i64 k ∧ Hid (∃ A a c B b d, Play6 w wr (L.up f) N C X n l qs (.slice A a c) (.slice B b d))) (fun i _ => m - (intOf i).toNat)
  case atStart => exact ⟨0, L.hf, _, _, Nat.zero_le _, rfl, Lib.hid ⟨_, _, _, _, _, _, ST.out⟩⟩
  case round =>
    clear ST hX
    obtain ⟨k, f, l, qs, hk, rfl, hs⟩ := hrel
    obtain ⟨Ar, nr, cr, Br, mr, dr, m0⟩ := hs.out
    have M := Lib.hid m0
    have hbel := m0.on.bel
    clear hs
    by_cases hlt : k < m
    · obtain ⟨ad, c', K, c, a, x, hzs, hv', hz, d0, d1, d2', d3⟩ := Recs.four HR.out hbel (by rw [HM.out]; exact hlt)
      rw [HM.out] at hv'
      injection hv' with hv' _ hv2
      subst hv' hv2
      clear hzs hz
      have y0 := m0.ref.cell 0
      have y1 := m0.ref.cell 1
      simp only [List.getElem?_cons_zero, List.getElem?_cons_succ] at y0 y1
      have hXlt := m0.ref.lt
      have hXne : X ≠ wr.heap.size := by omega
      have m1 := m0.below (below_al wr (.cells #[.int .i64 K, .int .i64 c, .int .i64 a, .int .i64 x] 37))
      have rd := rdo6_any (PB (L.up f) C X) N l qs _ _ K c a x _ m1.rb (fun b hb => ⟨fun hf => by have := m0.on.bus.fp_lt (by rw [m0.cores]; exact hf); rw [size_al] at hb; omega, by rw [size_al] at hb; omega⟩) hN0 (by rw [m0.words]; exact hn0) (fun q hq => by
        obtain ⟨i, hi, rfl⟩ := List.mem_iff_getElem.1 hq
        exact InMem.of_bus m0.on.bus (List.getElem?_eq_getElem hi))
      obtain ⟨zn, hzn⟩ : ∃ z, dN l qs K c a x = z := ⟨_, rfl⟩
      obtain ⟨ze, hze⟩ : ∃ z, dE l qs K c a x = z := ⟨_, rfl⟩
      rw [hzn, hze] at rd
      unfold opV at rd
      have RD := Lib.hid rd
      have M1 := Lib.hid m1
      have HZ := Lib.hid (And.intro hzn hze)
      have e1 : (zn != zn) = false := by simp
      have e2 : (ze != ze) = false := by simp
      have HOP := Lib.hid (Row.new wr 37 #[.int .i64 K, .int .i64 c, .int .i64 a, .int .i64 x])
      clear rd m1 m0 hzn hze hbel
      go_wp2_with fail
      refine RD.out.mono ?_
      rintro e w3 ⟨A3, n3, c3, B3, m3, d3', rfl, hr3, hb3⟩
      dsimp only
      have t0 := M1.out.ref.below hb3
      have y0 := t0.cell 0
      have y1 := t0.cell 1
      have g0 := t0.soft 0
      have g1 := t0.soft 1
      have hop3 := HOP.out.below hb3
      have p0 := hop3.cell 0
      have p1 := hop3.cell 1
      have p2 := hop3.cell 2
      have p3 := hop3.cell 3
      simp only [List.getElem?_cons_zero, List.getElem?_cons_succ] at y0 y1 p0 p1 p2 p3
      have l3 := hop3.lt
      have l3' := t0.lt
      have n3a : X ≠ w3.heap.size := by omega
      have n3b : wr.heap.size ≠ w3.heap.size := by omega
      have n3c : wr.heap.size ≠ X := fun e => hXne e.symm
      have MI := Lib.hid (Mid6.of M1.out hb3 hr3 (.cells #[.slice A3 n3 c3, .slice B3 m3 d3'] 34))
      have HOP3 := Lib.hid ((((hop3.far (p := ⟨X, 0, none⟩) n3c (.slice A3 n3 c3)).far (p := ⟨X, 1, none⟩) n3c (.slice B3 m3 d3')).below (below_al _ (.cells #[.slice A3 n3 c3, .slice B3 m3 d3'] 34))))
      have DO := do6_all (L.up f) N l qs K c a x _ MI.out.on.bus
      rw [HZ.out.1, HZ.out.2] at DO
      unfold opV ptr at DO
      have DOO := Lib.hid DO
      clear t0 hop3 hr3 hb3 DO
      go_wp2_with fail
      refine DOO.out.mono ?_
      rintro e w4 h4
      have hno : ¬ (L.up f).fp (dQ N l qs K c a x).length wr.heap.size := fun h => by
        rw [dQ_len] at h
        have := M.out.on.bus.fp_lt h
        omega
      have hop4 : Row w4 wr.heap.size 37 [.int .i64 K, .int .i64 c, .int .i64 a, .int .i64 x] := by
        obtain ⟨_, _, _, _, ho⟩ := h4
        exact HOP3.out.only ho hno
      obtain ⟨f4, rfl, m4⟩ := MI.out.step (dQ_len N l qs K c a x) h4
      have y0 := m4.ref.cell 0
      have y1 := m4.ref.cell 1
      simp only [List.getElem?_cons_zero, List.getElem?_cons_succ] at y0 y1
      have lk := like6_yes (PB (L.up f4) C X) (L.up f4) N _ _ _ _ w4 m4.on.bus m4.rb
      unfold ptr at lk
      have LK := Lib.hid lk
      have M4 := Lib.hid m4
      clear h4 hno hop4 m4 lk p0 p1 p2 p3 g0 g1
      go_wp2_with fail
      refine LK.out.mono ?_
      rintro e w5 ⟨rfl, hb5⟩
      have m5 := M4.out.below hb5
      rw [dL_len, M.out.words] at m5
      have M5 := Lib.hid m5
      clear hb5 m5
      go_wp2_with fail
      go_roundw
      case rel => exact ⟨k + 1, f4, _, _, by omega, by go_num, Lib.hid ⟨_, _, _, _, _, _, M5.out⟩⟩
      case measure => simp [intOf]; omega
    · obtain rfl : k = m := by omega
      clear m0
      go_wp2_with fail
      refine (alive6 _).mono ?_
      rintro e w6 ⟨rfl, hb6⟩
      go_wp2
      go_ret
      exact ⟨rfl, below_on hbel hb6⟩

set_option maxRecDepth 100000 in
set_option maxHeartbeats 1000000 in
theorem busPlays_any (c n b : Int) (v : Value) (R : List (List Int)) (w : World) (hR : Recs w 4 v R) :
    Calls Try.prog 3 #[.int .i64 c, .int .i64 n, .int .i64 b, v] w fun e w' => e = .returned (.bool true) ∧ Below w.heap.size w w' := by
  by_cases hf : R.length ≤ 80 ∧ n ≤ 200
  · by_cases h : 1 ≤ c ∧ c ≤ 8 ∧ 1 ≤ n ∧ n ≤ 65536 ∧ 1 ≤ b ∧ b ≤ 16
    · obtain ⟨h1, h2, h3, h4, h5, h6⟩ := h
      obtain ⟨C, rfl⟩ := Int.eq_ofNat_of_zero_le (show 0 ≤ c by omega)
      obtain ⟨m, rfl⟩ := Int.eq_ofNat_of_zero_le (show 0 ≤ n by omega)
      obtain ⟨N, rfl⟩ := Int.eq_ofNat_of_zero_le (show 0 ≤ b by omega)
      exact busPlays_main C m N v R w (by omega) (by omega) (by omega) (by omega) (by omega) (by omega) hR hf.1
    · obtain ⟨A, cc, rfl, hA⟩ := hR
      clear hA
      have NW := Lib.hid (fun W => new6_no c n b W h)
      have IS := Lib.hid (fun W => ris6_no c n b W h)
      have fw := few6_any n A R.length cc w
      have hfew : (decide ((R.length : Int) ≤ 80) && decide (n ≤ 200)) = true := by simp; omega
      rw [hfew] at fw
      have FW := Lib.hid fw
      clear fw hfew h
      go_enter Try.func3, Try.ntmps3
      go_wp2_with fail
      refine FW.out.mono ?_
      rintro e w' ⟨rfl, rfl⟩
      go_wp2_with fail
      refine (NW.out _).mono ?_
      rintro e w1 ⟨rfl, hb1⟩
      go_wp2_with fail
      refine (IS.out _).mono ?_
      rintro e w' ⟨rfl, rfl⟩
      go_wp2_with fail
      refine (alive6 _).mono ?_
      rintro e w6 ⟨rfl, hb6⟩
      go_wp2
      go_ret
      exact ⟨rfl, below_on hb1 hb6⟩
  · obtain ⟨A, cc, rfl, hA⟩ := hR
    clear hA
    have fw := few6_any n A R.length cc w
    have hfew : (decide ((R.length : Int) ≤ 80) && decide (n ≤ 200)) = false := by
      rw [Bool.and_eq_false_iff]
      simp only [decide_eq_false_iff_not]
      omega
    rw [hfew] at fw
    have FW := Lib.hid fw
    clear fw hfew hf
    go_enter Try.func3, Try.ntmps3
    go_wp2_with fail
    refine FW.out.mono ?_
    rintro e w' ⟨rfl, rfl⟩
    go_wp2_with fail
    refine (alive6 _).mono ?_
    rintro e w6 ⟨rfl, hb6⟩
    go_wp2
    go_ret
    exact ⟨rfl, hb6⟩

#print axioms busPlays_any
end Go.Proofs.Ytoiaojpomhjlaaa
