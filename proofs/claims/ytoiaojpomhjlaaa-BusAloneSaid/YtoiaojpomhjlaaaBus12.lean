/-
  Layer 6's law BusAlone: the walk.
  Conditions: those that each theorem states.
-/
import Derived.Test.YtoiaojpomhjlaaaBus10
import Derived.Test.YtoiaojpomhjlaaaBus11
import Derived.Test.YtoiaojpomhjlaaaArgs
namespace Go.Proofs.Ytoiaojpomhjlaaa
open Go.ChangeShapes Go.WideShapes Go.ChangeAt Go.RowKit

/-- A bus and a list of the law's own (block ob), both newer than w. -/
structure AloneAt (w wr : World) (L : Lay) (N ob : Nat) (l : List Int) (q : List (Int × Int)) (o : List Int) : Prop where
  bus : BusAt wr L N l [q]
  own : Row wr ob 3 (ints o)
  far : ¬ L.fp 1 ob
  new : ∀ b, L.fp 1 b → w.heap.size ≤ b
  obn : w.heap.size ≤ ob
  bel : Below w.heap.size w wr

theorem AloneAt.below {w wr w' : World} {L : Lay} {N ob : Nat} {l : List Int} {q : List (Int × Int)} {o : List Int} (m : AloneAt w wr L N ob l q o) (hb : Below wr.heap.size wr w') : AloneAt w w' L N ob l q o :=
  ⟨m.bus.below hb, m.own.below hb, m.far, m.new, m.obn, below_on m.bel hb⟩

theorem AloneAt.put {w wr : World} {L : Lay} {N ob : Nat} {l : List Int} {q : List (Int × Int)} {o : List Int} (m : AloneAt w wr L N ob l q o) (k : Nat) (x : Int) : AloneAt w (wr.setCell ⟨ob, k, none⟩ (.int .i64 x)) L N ob l q (o.set k x) :=
  ⟨m.bus.setVar m.far k _, by rw [ints_set]; exact m.own.put k _, m.far, m.new, m.obn, m.bel.setCell (p := ⟨ob, k, none⟩) m.obn _⟩

theorem AloneAt.step {w wr w2 : World} {L : Lay} {N ob : Nat} {l l' : List Int} {q q' : List (Int × Int)} {o : List Int} {a : Value} {e : Ending} (m : AloneAt w wr L N ob l q o) (h : BusP L N l' [q'] a wr e w2) :
    ∃ f, e = .returned a ∧ AloneAt w w2 (L.up f) N ob l' q' o ∧ Only (L.fp 1) wr w2 := by
  obtain ⟨f, he, hr, hx, ho⟩ := h
  exact ⟨f, he, ⟨hr, m.own.only ho m.far, hx.not m.far m.own.lt, hx.base m.bel.size m.new, m.obn, below_bus m.bel m.bel.size m.new ho⟩, ho⟩

/-- What a call leaves: the bus, the list, and the call itself in its variable. -/
def AloneP (w wr : World) (L : Lay) (N ob : Nat) (l : List Int) (q : List (Int × Int)) (o : List Int) (K a x : Int) (ans : Value) (e : Ending) (w2 : World) : Prop :=
  ∃ f, e = .returned ans ∧ AloneAt w w2 (L.up f) N ob l q o ∧ Row w2 wr.heap.size 37 [.int .i64 K, .int .i64 0, .int .i64 a, .int .i64 x]

theorem alone_do {w wr : World} {L : Lay} {N ob : Nat} {l : List Int} {q : List (Int × Int)} {o : List Int} (m : AloneAt w wr L N ob l q o) (K a x : Int) :
    Calls Try.prog 15 #[ptr L.g, .agg #[.int .i64 K, .int .i64 0, .int .i64 a, .int .i64 x]] (wr.alloc (.cells #[.int .i64 K, .int .i64 0, .int .i64 a, .int .i64 x] 37))
      (AloneP w wr L N ob (pL N l q K a x) (pQ N l q K a x) o K a x (.tuple #[.int .i64 (pN l q K a x), .int .i64 (pE l K a x)])) := by
  have m1 := m.below (below_al wr (.cells #[.int .i64 K, .int .i64 0, .int .i64 a, .int .i64 x] 37))
  refine (do6_ok L N l [q] 0 q K a x _ m1.bus rfl).mono (fun e w2 h => ?_)
  obtain ⟨f, he, m2, ho⟩ := m1.step h
  refine ⟨f, he, m2, (Row.new wr 37 #[.int .i64 K, .int .i64 0, .int .i64 a, .int .i64 x]).only ho (fun hb => ?_)⟩
  have := m.bus.fp_lt hb
  omega

/-- The list of the law's own behind a call. -/
theorem alone_own (N : Nat) (l : List Int) (q : List (Int × Int)) (K a x : Int) (h5 : K ≠ 5) : drs (pL N l q K a x) (pQ N l q K a x) = if (K = 0 ∨ K = 4) ∧ fillE l.length a 1 x = 0 then (drs l q).set a.toNat x else drs l q := by
  unfold pL pQ
  by_cases h0 : K = 0
  · rw [if_pos h0, if_pos h0, drs_sto]
    by_cases h : fillE l.length a 1 x = 0
    · rw [if_pos h, if_pos ⟨.inl h0, h⟩]
    · rw [if_neg h, if_neg (fun hh => h hh.2)]
  rw [if_neg h0, if_neg h0]
  by_cases h2 : K = 2
  · rw [if_pos h2, if_pos h2, if_neg (by omega), drs_drain]
  rw [if_neg h2, if_neg h2]
  by_cases h3 : K = 3
  · rw [if_pos h3, if_pos h3, if_neg (by omega), drs_nil]
  rw [if_neg h3, if_neg h3]
  by_cases h4 : K = 4
  · rw [if_pos h4, if_pos h4, drs_sw]
    by_cases h : fillE l.length a 1 x = 0
    · rw [if_pos h, if_pos ⟨.inr h4, h⟩]
    · rw [if_neg h, if_neg (fun hh => h hh.2)]
  rw [if_neg h4, if_neg h4, if_neg h5, if_neg (by omega)]

set_option maxRecDepth 100000 in
set_option maxHeartbeats 4000000 in
theorem busAlone_main (n N : Nat) (v : Value) (R : List (List Int)) (w : World) (hn0 : 1 ≤ n) (hn1 : n ≤ 200) (hN0 : 1 ≤ N) (hN1 : N ≤ 16) (hR : Recs w 4 v R) (hm : R.length ≤ 80) :
    Calls Try.prog 8 #[.int .i64 (n : Int), .int .i64 (N : Int), v] w fun e w' => e = .returned (.bool true) ∧ Below w.heap.size w w' := by
  have HR := Lib.hid hR
  obtain ⟨A, c, rfl, hA⟩ := hR
  clear hA
  obtain ⟨m, hm'⟩ : ∃ m, R.length = m := ⟨_, rfl⟩
  rw [hm'] at hm HR ⊢
  have HM := Lib.hid hm'; clear hm'
  have nw : Calls Try.prog 11 #[.int .i64 1, .int .i64 (n : Int), .int .i64 (N : Int)] w (MadeP N (List.replicate n 0) [[]] (fun g => .tuple #[.pointer (some ⟨g, 0, none⟩), .int .i64 0]) w) := new6_yes 1 n N w (by omega) (by omega) hn0 (by omega) hN0 hN1
  have NW := Lib.hid nw
  have fw := few6_any (n : Int) A m c
  have hfew : (decide ((m : Int) ≤ 80) && decide ((n : Int) ≤ 200)) = true := by simp; omega
  rw [hfew] at fw
  have FW := Lib.hid fw
  have hmk := fun W => run_make_row' (P := Try.prog) 30 3 (.int .i64 0) 8 Try.underlying30 int_info rfl .i64 .i64 n (by omega) (by omega) W
  clear nw fw hfew
  go_enter Try.func8, Try.ntmps8
  go_wp2_with fail
  refine NW.out.mono ?_
  rintro e w1 ⟨L, rfl, hr1, hn1', hb1⟩
  go_wp2_with fail
  refine (FW.out w1).mono ?_
  rintro e w' ⟨rfl, rfl⟩
  have st : AloneAt w (w1.alloc (.cells (madeCells #[Value.int .i64 0] n) 3)) (L.up L.hf) N w1.heap.size (List.replicate n 0) [] (List.replicate n 0) := by
    refine ⟨hr1.below (below_al _ _), ?_, fun h => by have := hr1.fp_lt h; omega, hn1', hb1.size, below_on hb1 (below_al _ _)⟩
    have := Row.new w1 3 (madeCells #[Value.int .i64 0] n)
    rw [ints_zeros] at this
    exact this
  have ST := Lib.hid st
  clear st hr1 hn1' hb1
  go_wp2_with fail
  go_loopw [37] (fun i wr => ∃ (k : Nat) (f : Nat → Option Nat) (l : List Int) (q : List (Int × Int)) (o : List Int), k ≤ m ∧ i = .int .i64 k ∧ Hid (AloneAt w wr (L.up f) N w1.heap.size l q o ∧ l.length = n ∧ o = drs l q)) (fun i _ => m - (intOf i).toNat)
  case atStart => exact ⟨0, L.hf, _, _, _, Nat.zero_le _, rfl, Lib.hid ⟨ST.out, by simp, rfl⟩⟩
  case round =>
    obtain ⟨k, f, l, q, o, hk, rfl, hs⟩ := hrel
    obtain ⟨m0, hln, ho⟩ := hs.out
    have M := Lib.hid m0
    have HLN := Lib.hid hln
    have HO := Lib.hid ho
    have hbel := m0.bel
    have hol : o.length = n := by rw [ho, drs_len, hln]
    have HOL := Lib.hid hol
    clear hs m0 hln ho hol
    by_cases hlt : k < m
    · obtain ⟨ad, c', K, c0, a, x, hzs, hv', hz, d0, d1, d2, d3⟩ := Recs.four HR.out hbel (by rw [HM.out]; exact hlt)
      rw [HM.out] at hv'
      injection hv' with hv' _ hv2
      subst hv' hv2
      clear hzs hz hbel
      by_cases h5 : K = 5
      · subst h5
        go_wp2_with fail
        go_roundw
        case rel => exact ⟨k + 1, f, l, q, o, by omega, by go_num, Lib.hid ⟨M.out.below (below_al _ _), HLN.out, HO.out⟩⟩
        case measure => simp [intOf]; omega
      have b5 : (K == 5) = false := by simpa using h5
      by_cases h0 : K = 0
      · subst h0
        by_cases hE : fillE l.length a 1 x = 0
        · obtain ⟨_, ha0, ha1⟩ := runE_ok (fillE_ok hE).1
          obtain ⟨α, rfl⟩ := Int.eq_ofNat_of_zero_le ha0
          have hα : α < n := by have := HLN.out; omega
          have HY : Hid (o.set α x = drs (pL N l q 0 α x) (pQ N l q 0 α x)) := Lib.hid (by rw [alone_own N l q 0 α x (by decide), if_pos ⟨.inl rfl, hE⟩, HO.out]; rfl)
          have eE : pE l 0 α x = 0 := hE
          have eN : pN l q 0 α x = 0 := rfl
          have D := alone_do M.out 0 α x
          rw [eE, eN] at D
          have HD := Lib.hid D
          clear D eE eN
          unfold ptr at HD
          go_wp2_with fail
          refine HD.out.mono ?_
          rintro e w2 ⟨f2, rfl, m2, hrow⟩
          have p0 := hrow.cell 0
          have p2 := hrow.cell 2
          have p3 := hrow.cell 3
          simp only [List.getElem?_cons_zero, List.getElem?_cons_succ] at p0 p2 p3
          have M2 := Lib.hid m2
          clear m2 hrow
          clear hE
          have q1 : w2.cell? ⟨w1.heap.size, α, none⟩ = some (.int .i64 (o.getD α 0)) := by rw [M2.out.own.cell]; exact ints_at o α (by rw [HOL.out]; exact hα)
          have q2 := M2.out.own.soft α
          go_wp2
          go_roundw
          case rel => exact ⟨k + 1, f2, _, _, o.set α x, by omega, by go_num, Lib.hid ⟨M2.out.put α x, by rw [pL_len]; exact HLN.out, HY.out⟩⟩
          case measure => simp [intOf]; omega
        · have HX : Hid (o = drs (pL N l q 0 a x) (pQ N l q 0 a x)) := Lib.hid (by rw [alone_own N l q 0 a x (by decide), if_neg (fun h => hE h.2)]; exact HO.out)
          obtain ⟨z, eE⟩ : ∃ z, pE l 0 a x = z := ⟨_, rfl⟩
          have hz : (z != 0) = true := by
            have : pE l 0 a x ≠ 0 := hE
            rw [eE] at this
            simpa using this
          have eN : pN l q 0 a x = 0 := rfl
          have D := alone_do M.out 0 a x
          rw [eE, eN] at D
          have HD := Lib.hid D
          clear D eE eN
          unfold ptr at HD
          go_wp2_with fail
          refine HD.out.mono ?_
          rintro e w2 ⟨f2, rfl, m2, hrow⟩
          have p0 := hrow.cell 0
          have p2 := hrow.cell 2
          have p3 := hrow.cell 3
          simp only [List.getElem?_cons_zero, List.getElem?_cons_succ] at p0 p2 p3
          have M2 := Lib.hid m2
          clear m2 hrow
          clear hE
          go_wp2
          go_roundw
          case rel => exact ⟨k + 1, f2, _, _, o, by omega, by go_num, Lib.hid ⟨M2.out, by rw [pL_len]; exact HLN.out, HX.out⟩⟩
          case measure => simp [intOf]; omega
      have b0 : (K == 0) = false := by simpa using h0
      by_cases h4 : K = 4
      · subst h4
        by_cases hE : fillE l.length a 1 x = 0
        · obtain ⟨_, ha0, ha1⟩ := runE_ok (fillE_ok hE).1
          obtain ⟨α, rfl⟩ := Int.eq_ofNat_of_zero_le ha0
          have hα : α < n := by have := HLN.out; omega
          have HY : Hid (o.set α x = drs (pL N l q 4 α x) (pQ N l q 4 α x)) := Lib.hid (by rw [alone_own N l q 4 α x (by decide), if_pos ⟨.inr rfl, hE⟩, HO.out]; rfl)
          have eE : pE l 4 α x = 0 := hE
          have eN : pN l q 4 α x = o.getD α 0 := by
            show swV l q α x = _
            unfold swV
            rw [if_pos hE, loadV_in (by rw [drs_len]; exact (fillE_ok hE).1), ← HO.out]
            rfl
          have D := alone_do M.out 4 α x
          rw [eE, eN] at D
          have HD := Lib.hid D
          clear D eE eN
          unfold ptr at HD
          go_wp2_with fail
          refine HD.out.mono ?_
          rintro e w2 ⟨f2, rfl, m2, hrow⟩
          have p0 := hrow.cell 0
          have p2 := hrow.cell 2
          have p3 := hrow.cell 3
          simp only [List.getElem?_cons_zero, List.getElem?_cons_succ] at p0 p2 p3
          have M2 := Lib.hid m2
          clear m2 hrow
          clear hE
          have q1 : w2.cell? ⟨w1.heap.size, α, none⟩ = some (.int .i64 (o.getD α 0)) := by rw [M2.out.own.cell]; exact ints_at o α (by rw [HOL.out]; exact hα)
          have q2 := M2.out.own.soft α
          have hself : (o.getD α 0 != o.getD α 0) = false := by simp
          go_wp2
          go_roundw
          case rel => exact ⟨k + 1, f2, _, _, o.set α x, by omega, by go_num, Lib.hid ⟨M2.out.put α x, by rw [pL_len]; exact HLN.out, HY.out⟩⟩
          case measure => simp [intOf]; omega
        · have HX : Hid (o = drs (pL N l q 4 a x) (pQ N l q 4 a x)) := Lib.hid (by rw [alone_own N l q 4 a x (by decide), if_neg (fun h => hE h.2)]; exact HO.out)
          obtain ⟨z, eE⟩ : ∃ z, pE l 4 a x = z := ⟨_, rfl⟩
          have hz : (z != 0) = true := by
            have : pE l 4 a x ≠ 0 := hE
            rw [eE] at this
            simpa using this
          obtain ⟨n', eN⟩ : ∃ n', pN l q 4 a x = n' := ⟨_, rfl⟩
          have D := alone_do M.out 4 a x
          rw [eE, eN] at D
          have HD := Lib.hid D
          clear D eE eN
          unfold ptr at HD
          go_wp2_with fail
          refine HD.out.mono ?_
          rintro e w2 ⟨f2, rfl, m2, hrow⟩
          have p0 := hrow.cell 0
          have p2 := hrow.cell 2
          have p3 := hrow.cell 3
          simp only [List.getElem?_cons_zero, List.getElem?_cons_succ] at p0 p2 p3
          have M2 := Lib.hid m2
          clear m2 hrow
          clear hE
          go_wp2
          go_roundw
          case rel => exact ⟨k + 1, f2, _, _, o, by omega, by go_num, Lib.hid ⟨M2.out, by rw [pL_len]; exact HLN.out, HX.out⟩⟩
          case measure => simp [intOf]; omega
      have b4 : (K == 4) = false := by simpa using h4
      have HX : Hid (o = drs (pL N l q K a x) (pQ N l q K a x)) := Lib.hid (by rw [alone_own N l q K a x h5, if_neg (fun h => by omega)]; exact HO.out)
      by_cases h2 : K = 2
      · subst h2
        have eE : pE l 2 a x = 0 := rfl
        obtain ⟨n', eN⟩ : ∃ n', pN l q 2 a x = n' := ⟨_, rfl⟩
        have D := alone_do M.out 2 a x
        rw [eE, eN] at D
        have HD := Lib.hid D
        clear D eE eN
        unfold ptr at HD
        go_wp2_with fail
        refine HD.out.mono ?_
        rintro e w2 ⟨f2, rfl, m2, hrow⟩
        have p0 := hrow.cell 0
        have p2 := hrow.cell 2
        have p3 := hrow.cell 3
        simp only [List.getElem?_cons_zero, List.getElem?_cons_succ] at p0 p2 p3
        have M2 := Lib.hid m2
        clear m2 hrow
        go_wp2
        go_roundw
        case rel => exact ⟨k + 1, f2, _, _, o, by omega, by go_num, Lib.hid ⟨M2.out, by rw [pL_len]; exact HLN.out, HX.out⟩⟩
        case measure => simp [intOf]; omega
      have b2 : (K == 2) = false := by simpa using h2
      by_cases h3 : K = 3
      · subst h3
        have eE : pE l 3 a x = 0 := rfl
        obtain ⟨n', eN⟩ : ∃ n', pN l q 3 a x = n' := ⟨_, rfl⟩
        have D := alone_do M.out 3 a x
        rw [eE, eN] at D
        have HD := Lib.hid D
        clear D eE eN
        unfold ptr at HD
        go_wp2_with fail
        refine HD.out.mono ?_
        rintro e w2 ⟨f2, rfl, m2, hrow⟩
        have p0 := hrow.cell 0
        have p2 := hrow.cell 2
        have p3 := hrow.cell 3
        simp only [List.getElem?_cons_zero, List.getElem?_cons_succ] at p0 p2 p3
        have M2 := Lib.hid m2
        clear m2 hrow
        go_wp2
        go_roundw
        case rel => exact ⟨k + 1, f2, _, _, o, by omega, by go_num, Lib.hid ⟨M2.out, by rw [pL_len]; exact HLN.out, HX.out⟩⟩
        case measure => simp [intOf]; omega
      have b3 : (K == 3) = false := by simpa using h3
      have eE0 : pE l K a x = runE l.length a 1 := by unfold pE; rw [if_neg h0, if_neg h2, if_neg h3, if_neg h4, if_neg h5]
      have eN0 : pN l q K a x = ldV l q a := by unfold pN; rw [if_neg h0, if_neg h2, if_neg h3, if_neg h4, if_neg h5]
      by_cases hE : runE l.length a 1 = 0
      · obtain ⟨_, ha0, ha1⟩ := runE_ok hE
        obtain ⟨α, rfl⟩ := Int.eq_ofNat_of_zero_le ha0
        have hα : α < n := by have := HLN.out; omega
        have eE : pE l K α x = 0 := eE0.trans hE
        have eN : pN l q K α x = o.getD α 0 := by
          rw [eN0, HO.out, ← drs_get (InMem.of_bus M.out.bus (i := 0) rfl) hE]
          rfl
        clear eE0 eN0
        have D := alone_do M.out K α x
        rw [eE, eN] at D
        have HD := Lib.hid D
        clear D eE eN
        unfold ptr at HD
        go_wp2_with fail
        refine HD.out.mono ?_
        rintro e w2 ⟨f2, rfl, m2, hrow⟩
        have p0 := hrow.cell 0
        have p2 := hrow.cell 2
        have p3 := hrow.cell 3
        simp only [List.getElem?_cons_zero, List.getElem?_cons_succ] at p0 p2 p3
        have M2 := Lib.hid m2
        clear m2 hrow
        have q1 : w2.cell? ⟨w1.heap.size, α, none⟩ = some (.int .i64 (o.getD α 0)) := by rw [M2.out.own.cell]; exact ints_at o α (by rw [HOL.out]; exact hα)
        have q2 := M2.out.own.soft α
        have hself : (o.getD α 0 != o.getD α 0) = false := by simp
        go_wp2
        go_roundw
        case rel => exact ⟨k + 1, f2, _, _, o, by omega, by go_num, Lib.hid ⟨M2.out, by rw [pL_len]; exact HLN.out, HX.out⟩⟩
        case measure => simp [intOf]; omega
      · obtain ⟨z, eE⟩ : ∃ z, pE l K a x = z := ⟨_, rfl⟩
        have hz : (z != 0) = true := by
          have : pE l K a x ≠ 0 := by rw [eE0]; exact hE
          rw [eE] at this
          simpa using this
        obtain ⟨n', eN⟩ : ∃ n', pN l q K a x = n' := ⟨_, rfl⟩
        clear eE0 eN0
        have D := alone_do M.out K a x
        rw [eE, eN] at D
        have HD := Lib.hid D
        clear D eE eN
        unfold ptr at HD
        go_wp2_with fail
        refine HD.out.mono ?_
        rintro e w2 ⟨f2, rfl, m2, hrow⟩
        have p0 := hrow.cell 0
        have p2 := hrow.cell 2
        have p3 := hrow.cell 3
        simp only [List.getElem?_cons_zero, List.getElem?_cons_succ] at p0 p2 p3
        have M2 := Lib.hid m2
        clear m2 hrow
        clear hE
        go_wp2
        go_roundw
        case rel => exact ⟨k + 1, f2, _, _, o, by omega, by go_num, Lib.hid ⟨M2.out, by rw [pL_len]; exact HLN.out, HX.out⟩⟩
        case measure => simp [intOf]; omega
    · obtain rfl : k = m := by omega
      have fn := fence6_ok (L.up f) N l [q] 0 q wr M.out.bus rfl
      unfold ptr at fn
      have FN := Lib.hid fn
      clear fn hbel
      go_wp2_with fail
      refine FN.out.mono ?_
      rintro e w2 h2
      obtain ⟨f2, rfl, m2, _⟩ := M.out.step h2
      rw [← HO.out] at m2
      have hoN : o.length ≤ 65536 := by rw [HOL.out]; omega
      have M2 := Lib.hid m2
      clear m2 h2
      go_wp2_with fail
      refine (ram6_any (L.up f2) N o [[]] w2 M2.out.bus).mono ?_
      rintro e w3 ⟨g3, h3, rfl, r3, hg3, hh3, hb3⟩
      go_wp2_with fail
      refine (words_any g3 h3 o w3 r3).mono ?_
      rintro e w4 ⟨v4, rfl, hv4, hb4⟩
      have hb34 := below_on hb3 hb4
      have hown : Lies w4 (fun _ => True) (.slice (some ⟨w1.heap.size, 0, none⟩) n n) (ints o) := by
        have := Lies.of_row (P := fun _ => True) (M2.out.own.below hb34) trivial n
        rwa [ints_len, HOL.out] at this
      go_wp2_with fail
      refine (rsame_yes _ _ _ _ o w4 hv4 hown hoN).mono ?_
      rintro e w5 ⟨rfl, hb5⟩
      go_wp2_with fail
      refine (alive6 _).mono ?_
      rintro e w6 ⟨rfl, hb6⟩
      go_wp2
      go_ret
      exact ⟨rfl, below_on (below_on (below_on M2.out.bel hb34) hb5) hb6⟩

set_option maxRecDepth 100000 in
set_option maxHeartbeats 1000000 in
theorem busAlone_any (n b : Int) (v : Value) (R : List (List Int)) (w : World) (hR : Recs w 4 v R) :
    Calls Try.prog 8 #[.int .i64 n, .int .i64 b, v] w fun e w' => e = .returned (.bool true) ∧ Below w.heap.size w w' := by
  by_cases h : 1 ≤ n ∧ n ≤ 65536 ∧ 1 ≤ b ∧ b ≤ 16
  · obtain ⟨h1, h2, h3, h4⟩ := h
    obtain ⟨m, rfl⟩ := Int.eq_ofNat_of_zero_le (show 0 ≤ n by omega)
    obtain ⟨N, rfl⟩ := Int.eq_ofNat_of_zero_le (show 0 ≤ b by omega)
    by_cases hf : R.length ≤ 80 ∧ m ≤ 200
    · exact busAlone_main m N v R w (by omega) hf.2 (by omega) (by omega) hR hf.1
    · obtain ⟨A, c, rfl, hA⟩ := hR
      clear hA
      have nw : Calls Try.prog 11 #[.int .i64 1, .int .i64 (m : Int), .int .i64 (N : Int)] w (MadeP N (List.replicate m 0) [[]] (fun g => .tuple #[.pointer (some ⟨g, 0, none⟩), .int .i64 0]) w) := new6_yes 1 m N w (by omega) (by omega) (by omega) (by omega) (by omega) (by omega)
      have NW := Lib.hid nw
      have fw := few6_any (m : Int) A R.length c
      have hfew : (decide ((R.length : Int) ≤ 80) && decide ((m : Int) ≤ 200)) = false := by
        rw [Bool.and_eq_false_iff]
        simp only [decide_eq_false_iff_not]
        omega
      rw [hfew] at fw
      have FW := Lib.hid fw
      clear nw fw hfew
      go_enter Try.func8, Try.ntmps8
      go_wp2_with fail
      refine NW.out.mono ?_
      rintro e w1 ⟨L, rfl, hr1, hn1', hb1⟩
      go_wp2_with fail
      refine (FW.out w1).mono ?_
      rintro e w' ⟨rfl, rfl⟩
      go_wp2_with fail
      refine (alive6 _).mono ?_
      rintro e w6 ⟨rfl, hb6⟩
      go_wp2
      go_ret
      exact ⟨rfl, below_on hb1 hb6⟩
  · obtain ⟨A, c, rfl, hA⟩ := hR
    clear hA
    have NW := Lib.hid (new6_no 1 n b w (by omega))
    clear h
    go_enter Try.func8, Try.ntmps8
    go_wp2_with fail
    refine NW.out.mono ?_
    rintro e w1 ⟨rfl, hb1⟩
    go_wp2_with fail
    refine (alive6 _).mono ?_
    rintro e w6 ⟨rfl, hb6⟩
    go_wp2
    go_ret
    exact ⟨rfl, below_on hb1 hb6⟩

#print axioms busAlone_any
end Go.Proofs.Ytoiaojpomhjlaaa
