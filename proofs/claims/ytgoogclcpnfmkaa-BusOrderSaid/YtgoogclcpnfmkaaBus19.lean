/-
  Layer 6's law: Like: the bus has just the reference's words and stores.
  Conditions: those that each theorem states.
-/
import Derived.Test.YtgoogclcpnfmkaaRBus8
import Derived.Test.YtgoogclcpnfmkaaSram
import Derived.Deep.RegionHeld3
namespace Go.Proofs.Ytgoogclcpnfmkaa
open Go.ChangeShapes Go.WideShapes Go.ChangeAt Go.RowKit

/-- What Waits leaves, seen from an earlier world w0 and from the world W of the call. -/
def WaitS (q : List (Int × Int)) (n : Nat) (w0 W : World) (e : Ending) (w' : World) : Prop :=
  ∃ b, e = .returned (.slice (some ⟨b, 0, none⟩) n n) ∧ Hid (Row w' b 112 (cvs q)) ∧ Below w0.heap.size w0 w' ∧ Hid (Below W.heap.size W w')
/-- The same for a new list of records of floats. -/
def NewR (q : List (Int × Int)) (w0 W : World) (e : Ending) (w' : World) : Prop :=
  ∃ v, e = .returned v ∧ Hid (Two w' (fun _ => True) v (fls q)) ∧ Below w0.heap.size w0 w' ∧ Hid (Below W.heap.size W w')

theorem waits_r {L : Lay} {N n : Nat} {l : List Int} {qs : List (List (Int × Int))} {i : Nat} {q : List (Int × Int)} {w0 : World} (r : BusAt w0 L N l qs) (hq : qs[i]? = some q) (hn : q.length = n) (W : World) (hb : Below w0.heap.size w0 W) :
    Calls Try.prog 24 #[.pointer (some ⟨L.g, 0, none⟩), .int .i64 (i : Int)] W (WaitS q n w0 W) :=
  (waits6_ok L N l qs i q W (r.below hb) hq).mono fun _ _ ⟨b, he, hr, _, hb'⟩ => ⟨b, by rw [he, hn], hr, below_on hb hb', hb'⟩
theorem pairs_r {b n : Nat} {q : List (Int × Int)} {w0 W : World} (hr : Row W b 112 (cvs q)) (hn : q.length = n) (hb : Below w0.heap.size w0 W) (hq : n ≤ 65536) : Calls Try.prog 27 #[.slice (some ⟨b, 0, none⟩) n n] W (NewR q w0 W) := by
  have hl := Lies.of_row (P := fun _ => True) hr trivial n
  rw [cvs_len, hn] at hl
  exact (pairs_any _ _ q W hl (by omega)).mono fun _ _ ⟨v, he, hv, hb'⟩ => ⟨v, he, hv, below_on hb hb', hb'⟩
theorem cells_r {P : Nat → Prop} {v : Value} {q : List (Int × Int)} {w0 : World} (hv : Two w0 P v (sts q)) (hg : Good q) (hq : q.length ≤ 65536) (W : World) (hb : Below w0.heap.size w0 W) : Calls Try.prog 28 #[v] W (NewR q w0 W) :=
  (rcells_any P v q W (hv.below hb) hg hq).mono fun _ _ ⟨v, he, hv, hb'⟩ => ⟨v, he, hv, below_on hb hb', hb'⟩
theorem sameCells_r {P Q : Nat → Prop} {v u : Value} {q : List (Int × Int)} {w0 W : World} (hv : Two W P v (fls q)) (hu : Two W Q u (fls q)) (hg : Good q) (hq : q.length ≤ 65536) (hb : Below w0.heap.size w0 W) :
    Calls Try.prog 26 #[v, u] W fun e w' => e = .returned (.bool true) ∧ Below w0.heap.size w0 w' :=
  (rsameCells_yes P Q v u q W hv hu hg hq).mono fun _ _ ⟨he, hb'⟩ => ⟨he, below_on hb hb'⟩
theorem ram_r {L : Lay} {N : Nat} {l : List Int} {qs : List (List (Int × Int))} {w0 : World} (r : BusAt w0 L N l qs) (W : World) (hb : Below w0.heap.size w0 W) :
    Calls Try.prog 23 #[.pointer (some ⟨L.g, 0, none⟩)] W fun e w' => ∃ g h, e = .returned (.pointer (some ⟨g, 0, none⟩)) ∧ Hid (RamAt w' g h l) ∧ Below w0.heap.size w0 w' :=
  (ram6_any L N l qs W (r.below hb)).mono fun _ _ ⟨g, h, he, hr, _, _, hb'⟩ => ⟨g, h, he, hr, below_on hb hb'⟩
theorem words_r {l : List Int} {g h : Nat} {w0 W : World} (r : RamAt W g h l) (hb : Below w0.heap.size w0 W) :
    Calls Try.prog 22 #[.pointer (some ⟨g, 0, none⟩)] W fun e w' => ∃ v, e = .returned v ∧ Hid (Lies w' (fun _ => True) v (ints l)) ∧ Below w0.heap.size w0 w' :=
  (words_any g h l W r).mono fun _ _ ⟨v, he, hv, hb'⟩ => ⟨v, he, hv.weak (fun _ _ _ => trivial), below_on hb hb'⟩
theorem same_r {P Q : Nat → Prop} {v u : Value} {l : List Int} {w0 W : World} (hv : Lies W P v (ints l)) (hu : Lies W Q u (ints l)) (hl : l.length ≤ 65536) (hb : Below w0.heap.size w0 W) :
    Calls Try.prog 29 #[v, u] W fun e w' => e = .returned (.bool true) ∧ Below w0.heap.size w0 w' :=
  (rsame_yes P Q v u l W hv hu hl).mono fun _ _ ⟨he, hb'⟩ => ⟨he, below_on hb hb'⟩

theorem keep_r {w0 : World} {B : Nat} {u v : Value} (f0 : w0.cell? ⟨B, 0, none⟩ = some u) (f1 : w0.cell? ⟨B, 1, none⟩ = some v) (hlt : B < w0.heap.size) {W : World} (hb : Below w0.heap.size w0 W) : W.cell? ⟨B, 0, none⟩ = some u ∧ W.cell? ⟨B, 1, none⟩ = some v ∧ Below w0.heap.size w0 W :=
  ⟨(hb.cell (p := ⟨B, 0, none⟩) hlt).trans f0, (hb.cell (p := ⟨B, 1, none⟩) hlt).trans f1, hb⟩

set_option maxRecDepth 100000 in
set_option maxHeartbeats 4000000 in
theorem like6_yes (P : Nat → Prop) (L : Lay) (N : Nat) (l : List Int) (qs : List (List (Int × Int))) (vr vb : Value) (w : World) (r : BusAt w L N l qs) (rb : RBus w P N l qs vr vb) :
    Calls Try.prog 16 #[ptr L.g, .agg #[vr, vb]] w fun e w' => e = .returned (.bool true) ∧ Below w.heap.size w w' := by
  obtain ⟨A, k, Bv, d, rfl, rfl⟩ := rb.open_
  obtain ⟨C, hC⟩ : ∃ C, qs.length = C := ⟨_, rfl⟩
  obtain ⟨n, hn⟩ : ∃ n, l.length = n := ⟨_, rfl⟩
  have hm := r.most
  have hp := r.pos
  have hl := rb.size
  rw [hC, hn] at rb
  rw [hC] at hm hp
  rw [hC, hn]
  have hb0 := below_al w (.cells #[.slice A n k, .slice Bv C d] 34)
  have r0 := r.below hb0
  have rb0 := rb.below hb0
  have row := Row.new w 34 #[.slice A n k, .slice Bv C d]
  have HB0 := Lib.hid hb0
  have b1 : ((C : Int) != (C : Int)) = false := by simp
  unfold ptr
  go_enter Try.func16, Try.ntmps16
  go_wp2_with fail
  generalize w.alloc (.cells #[.slice A n k, .slice Bv C d] 34) = w0 at r0 rb0 row HB0 ⊢
  have f0 := row.cell 0
  have f1 := row.cell 1
  have hlt := row.lt
  simp only [List.getElem?_cons_zero, List.getElem?_cons_succ] at f0 f1
  have hbb : Below w0.heap.size w0 w0 := Below.refl _ _
  have co := Lib.hid (fun W (hb : Below w0.heap.size w0 W) => cores6_any L N l qs W (r0.below hb))
  rw [hC] at co
  unfold ptr at co
  have ra := Lib.hid (ram_r r0)
  have RB0 := Lib.hid rb0
  have R0 := Lib.hid r0
  have HL := Lib.hid hl
  have HC := Lib.hid hC
  have ROW := Lib.hid row
  generalize hB : w.heap.size = B at f0 f1 hlt ROW ⊢
  clear r rb hb0 r0 rb0 row hl hC hn
  go_region_held3 (fun w' => w'.cell? ⟨B, 0, none⟩ = some (.slice A n k) ∧ w'.cell? ⟨B, 1, none⟩ = some (.slice Bv C d) ∧ Below w0.heap.size w0 w')
    (first
      | exact keep_r f0 f1 hlt hb7
      | exact keep_r f0 f1 hlt hb6
      | exact keep_r f0 f1 hlt hb5
      | exact keep_r f0 f1 hlt hbb.drew
      | exact keep_r f0 f1 hlt hbb
      | go_keep)
    (first
      | (go_at_call 25; (with_reducible refine (co.out _ ?_).mono ?_); (go_split_ands; assumption); rintro e w' ⟨rfl, rfl⟩)
      | (go_at_call 23; (with_reducible refine (ra.out _ ?_).mono ?_); (go_split_ands; assumption); rintro e w5 ⟨g5, h5, rfl, hr5, hb5⟩)
      | (go_at_call 22; (with_reducible refine (words_r (w0 := w0) hr5.out ?_).mono ?_); (go_split_ands; assumption); rintro e w6 ⟨v6, rfl, hv6, hb6⟩)
      | (go_at_call 29; (with_reducible refine (same_r (w0 := w0) hv6.out (RB0.out.ram.below hb6) HL.out ?_).mono ?_); (go_split_ands; assumption); rintro e w7 ⟨rfl, hb7⟩))
  all_goals
    have x1 := ((ROW.out.below hb7).cell 1)
    simp only [List.getElem?_cons_zero, List.getElem?_cons_succ] at x1
    go_wp2_with fail
    go_loopw [25] (fun z wr => ∃ j : Nat, j ≤ C ∧ z = .int .i64 j ∧ Hid (Below w0.heap.size w0 wr)) (fun z _ => C - (intOf z).toNat)
    case atStart => exact ⟨0, Nat.zero_le _, rfl, Lib.hid hb7⟩
    case round =>
      obtain ⟨j, hj, rfl, HB⟩ := hrel
      by_cases hlj : j < C
      · obtain ⟨q, hq⟩ : ∃ q, qs[j]? = some q := ⟨_, List.getElem?_eq_getElem (by rw [HC.out]; exact hlj)⟩
        obtain ⟨g, o, v, hBv, hPg, hg, e0, e1, hv, hcv⟩ := (RB0.out.below HB.out).buf hq
        subst hBv
        obtain ⟨Av, nv, cv, rfl, HNV, HV⟩ := hv.open_
        have hnq : q.length = nv := by have := HNV.out; rwa [sts_len] at this
        have hfit := (R0.out.buf j q hq).fit
        have hnv : nv ≤ 65536 := by omega
        have hq16 : q.length ≤ 65536 := by omega
        have hb1 := below_al wr (.cells #[.int .i64 N, .slice Av nv cv] 82)
        have row1 := Row.new wr 82 #[.int .i64 N, .slice Av nv cv]
        have HB1 := Lib.hid hb1
        have wa := fun W hb => waits_r ((R0.out.below HB.out).below hb1) hq hnq W hb
        have ce := fun W hb => cells_r (HV.out.below hb1) hfit.2.2.2.2.2 hq16 W hb
        have HG := Lib.hid hfit.2.2.2.2.2
        have HN' := Lib.hid hnq
        have WA := Lib.hid wa
        have CE := Lib.hid ce
        clear hv hcv hq hfit hnq wa ce hb1
        go_wp2_with fail
        generalize wr.alloc (.cells #[.int .i64 N, .slice Av nv cv] 82) = w1 at row1 WA CE HB1 ⊢
        have s0 := row1.cell 0
        have s1 := row1.cell 1
        have slt := row1.lt
        simp only [List.getElem?_cons_zero, List.getElem?_cons_succ] at s0 s1
        have hbb1 : Below w1.heap.size w1 w1 := Below.refl _ _
        generalize wr.heap.size = D at s0 s1 slt ⊢
        clear row1
        go_region_held3 (fun w' => w'.cell? ⟨D, 0, none⟩ = some (.int .i64 N) ∧ w'.cell? ⟨D, 1, none⟩ = some (.slice Av nv cv) ∧ Below w1.heap.size w1 w')
          (first
            | exact keep_r s0 s1 slt hb12
            | exact keep_r s0 s1 slt hb11
            | exact keep_r s0 s1 slt hb10
            | exact keep_r s0 s1 slt hb9
            | exact keep_r s0 s1 slt hbb1.drew
            | exact keep_r s0 s1 slt hbb1
            | go_keep)
          (first
            | (go_at_call 24; (with_reducible refine (WA.out _ ?_).mono ?_); (go_split_ands; assumption); rintro e w9 ⟨b9, rfl, hr9, hb9, hk9⟩)
            | (go_at_call 27; (with_reducible refine (pairs_r (w0 := w1) hr9.out HN'.out ?_ hnv).mono ?_); (go_split_ands; assumption); rintro e w10 ⟨v10, rfl, hv10, hb10, hk10⟩)
            | (go_at_call 27; (with_reducible refine (pairs_r (w0 := w1) (hr9.out.below hk11.out) HN'.out ?_ hnv).mono ?_); (go_split_ands; assumption); rintro e w10 ⟨v10, rfl, hv10, hb10, hk10⟩)
            | (go_at_call 28; (with_reducible refine (CE.out _ ?_).mono ?_); (go_split_ands; assumption); rintro e w11 ⟨v11, rfl, hv11, hb11, hk11⟩)
            | (go_at_call 26; (with_reducible refine (sameCells_r (w0 := w1) hv10.out (hv11.out.below hk10.out) HG.out (by rw [HN'.out]; exact hnv) ?_).mono ?_); (go_split_ands; assumption); rintro e w12 ⟨rfl, hb12⟩)
            | (go_at_call 26; (with_reducible refine (sameCells_r (w0 := w1) (hv10.out.below hk11.out) hv11.out HG.out (by rw [HN'.out]; exact hnv) ?_).mono ?_); (go_split_ands; assumption); rintro e w12 ⟨rfl, hb12⟩)
            | (go_at_call 26; (with_reducible refine (sameCells_r (w0 := w1) hv10.out ((hv11.out.below hk9.out).below hk10.out) HG.out (by rw [HN'.out]; exact hnv) ?_).mono ?_); (go_split_ands; assumption); rintro e w12 ⟨rfl, hb12⟩))
        all_goals
          go_wp2_with fail
          go_roundw
        all_goals first
          | exact ⟨j + 1, by omega, by go_num, Lib.hid (below_on (below_on HB.out HB1.out) hb12)⟩
          | (simp [intOf]; omega)
      · obtain rfl : j = C := by omega
        have x1 := ((ROW.out.below HB.out).cell 1)
        simp only [List.getElem?_cons_zero, List.getElem?_cons_succ] at x1
        have wn := Lib.hid (fun (z : Int) (hz : z < 0 ∨ (qs.length : Int) ≤ z) (W : World) (hb : Below w0.heap.size w0 W) => waits6_no L N l qs z W (R0.out.below hb) hz)
        unfold ptr at wn
        go_wp2_with fail
        refine (wn.out (-1) (.inl (by omega)) _ HB.out).mono ?_
        rintro e w13 ⟨rfl, hb13⟩
        have x1 := (((ROW.out.below HB.out).below hb13).cell 1)
        simp only [List.getElem?_cons_zero, List.getElem?_cons_succ] at x1
        have HB13 := Lib.hid (below_on HB.out hb13)
        clear hb13
        go_wp2_with fail
        refine (wn.out (j : Int) (.inr (by rw [HC.out]; omega)) _ HB13.out).mono ?_
        rintro e w14 ⟨rfl, hb14⟩
        have HB14 := Lib.hid (below_on HB13.out hb14)
        clear hb14
        go_wp2
        go_ret
        subst hB
        exact ⟨rfl, below_on HB0.out HB14.out⟩

#print axioms like6_yes
end Go.Proofs.Ytgoogclcpnfmkaa
