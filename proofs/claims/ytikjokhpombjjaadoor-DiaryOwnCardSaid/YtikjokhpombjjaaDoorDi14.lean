/-
  Layer 19 (diary): DiaryParts.
  Conditions: those that each theorem states.
-/
import Derived.Test.YtikjokhpombjjaaDoorDi13
namespace Go.Proofs.YtikjokhpombjjaaDoor
open Go.ChangeShapes Go.WideShapes Go.ChangeAt Go.RowKit

/-- How many entries are of the channel from a to b. -/
def cnt19 (l : List En) (a b : Nat) : Nat := (l.filter (sentB a b)).length + (l.filter (takenB a b)).length
def rowS (l : List En) (a m : Nat) : Nat := ((List.range m).map fun b => cnt19 l a b).sum
def totS (l : List En) (m : Nat) : Nat := ((List.range m).map fun a => rowS l a 8).sum
def hit19 (k c p a b : Int) : Nat := (k == 1 && c == a && p == b).toNat + ((k == 2 || k == 3) && c == b && p == a).toNat

theorem sum_add19 (f g : Nat → Nat) : ∀ l : List Nat, (l.map fun a => f a + g a).sum = (l.map f).sum + (l.map g).sum
  | [] => rfl
  | x :: l => by simp only [List.map_cons, List.sum_cons, sum_add19 f g l]; omega
theorem hits19 : ∀ (c p : Fin 8) (k : Fin 3), c ≠ p → ((List.range 8).map fun (a : Nat) => ((List.range 8).map fun (b : Nat) => hit19 ((k.val : Int) + 1) c.val p.val a b).sum).sum = 1 := by decide +kernel
theorem cnt_cons (x : En) (l : List En) (a b : Nat) : cnt19 (x :: l) a b = cnt19 l a b + hit19 x.kind x.core x.peer a b := by
  have e1 : (x.kind == 1 && x.core == (a : Int) && x.peer == (b : Int)) = sentB a b x := rfl
  have e2 : ((x.kind == 2 || x.kind == 3) && x.core == (b : Int) && x.peer == (a : Int)) = takenB a b x := rfl
  unfold cnt19 hit19
  rw [e1, e2, List.filter_cons, List.filter_cons]
  cases sentB a b x <;> cases takenB a b x <;> simp <;> omega
theorem rowS_cons (x : En) (l : List En) (a m : Nat) : rowS (x :: l) a m = rowS l a m + ((List.range m).map fun (b : Nat) => hit19 x.kind x.core x.peer a b).sum := by
  unfold rowS
  rw [← sum_add19]
  congr 1
  exact List.map_congr_left fun b _ => cnt_cons x l a b
theorem totS_cons (x : En) (l : List En) (m : Nat) : totS (x :: l) m = totS l m + ((List.range m).map fun (a : Nat) => ((List.range 8).map fun (b : Nat) => hit19 x.kind x.core x.peer a b).sum).sum := by
  unfold totS
  rw [← sum_add19]
  congr 1
  exact List.map_congr_left fun a _ => rowS_cons x l a 8
theorem ok_hits {x : En} (h : ok19 x = true) : ((List.range 8).map fun (a : Nat) => ((List.range 8).map fun (b : Nat) => hit19 x.kind x.core x.peer a b).sum).sum = 1 := by
  simp only [ok19, Bool.and_eq_true, decide_eq_true_eq, Bool.not_eq_true', beq_eq_false_iff_ne, Bool.or_eq_true, beq_iff_eq] at h
  obtain ⟨⟨⟨⟨⟨⟨h0, h1⟩, h2⟩, h3⟩, _⟩, _⟩, _⟩ := h
  have h4 := hits19 ⟨x.core.toNat, by omega⟩ ⟨x.peer.toNat, by omega⟩ ⟨(x.kind - 1).toNat, by omega⟩ (by intro e; injection e with e; omega)
  rw [show (((x.kind - 1).toNat : Nat) : Int) + 1 = x.kind by omega, show ((x.core.toNat : Nat) : Int) = x.core by omega, show ((x.peer.toNat : Nat) : Int) = x.peer by omega] at h4
  exact h4
theorem rr19_ok {l : List En} (h : rr19 l = true) : ∀ x ∈ l, ok19 x = true := fun x hx => by
  obtain ⟨j, hj⟩ := List.mem_iff_getElem?.1 hx
  have := ((rr19_iff l).1 h j x hj).1
  simp only [one19, Bool.and_eq_true] at this
  exact this.1
theorem totS_len : ∀ {l : List En}, (∀ x ∈ l, ok19 x = true) → totS l 8 = l.length
  | [], _ => by decide
  | x :: l, h => by
    rw [totS_cons, ok_hits (h x List.mem_cons_self), totS_len (fun y hy => h y (List.mem_cons_of_mem _ hy))]
    rfl
theorem rowS_succ (l : List En) (a m : Nat) : rowS l a (m + 1) = rowS l a m + cnt19 l a m := by simp [rowS, List.range_succ]
theorem totS_succ (l : List En) (m : Nat) : totS l (m + 1) = totS l m + rowS l m 8 := by simp [totS, List.range_succ]
theorem cnt_same {l : List En} (h : ∀ x ∈ l, ok19 x = true) (a : Nat) : (l.filter (sentB a a)).length = 0 ∧ (l.filter (takenB a a)).length = 0 := by
  constructor
  · rw [List.length_eq_zero_iff, List.filter_eq_nil_iff]
    intro x hx hs
    have h1 := h x hx
    simp only [sentB, ok19, Bool.and_eq_true, decide_eq_true_eq, Bool.not_eq_true', beq_eq_false_iff_ne, beq_iff_eq] at hs h1
    exact h1.1.1.1.1.2 (hs.1.2.trans hs.2.symm)
  · rw [List.length_eq_zero_iff, List.filter_eq_nil_iff]
    intro x hx hs
    have h1 := h x hx
    simp only [takenB, ok19, Bool.and_eq_true, decide_eq_true_eq, Bool.not_eq_true', beq_eq_false_iff_ne, beq_iff_eq] at hs h1
    exact h1.1.1.1.1.2 (hs.1.2.trans hs.2.symm)

/-- As OfE, the slices written out. -/
def OfS (f t : Int) (l : List En) (w : World) (e : Ending) (w' : World) : Prop := ∃ A1 n1 c1 A2 n2 c2, e = .returned (.tuple #[.slice A1 n1 c1, .slice A2 n2 c2]) ∧ (l.filter (sentB f t)).length = n1 ∧ (l.filter (takenB f t)).length = n2 ∧ Ens w' (.slice A1 n1 c1) (l.filter (sentB f t)) ∧ Ens w' (.slice A2 n2 c2) (l.filter (takenB f t)) ∧ Below w.heap.size w w'
theorem OfE.s {f t : Int} {l : List En} {w : World} {e : Ending} {w' : World} (h : OfE f t l w e w') : OfS f t l w e w' := by
  obtain ⟨v1, v2, h1, h2, h3, h4⟩ := h
  obtain ⟨A1, n1, c1, rfl, N1, E1⟩ := h2.open_
  obtain ⟨A2, n2, c2, rfl, N2, E2⟩ := h3.open_
  exact ⟨A1, n1, c1, A2, n2, c2, h1, N1, N2, E1, E2, h4⟩

set_option maxRecDepth 100000 in
set_option maxHeartbeats 4000000 in
theorem diaryParts_any (v : Value) (l : List En) (w : World) (hv : Ens w v l) (hm0 : l.length ≤ maxLen) :
    Calls Tryd.prog 5 #[v] w fun e w' => e = .returned (.bool true) ∧ Below w.heap.size w w' := by
  have KF := Lib.hid (few19_any 60 v l w hv hm0)
  obtain ⟨A, n, c, rfl, HN, HV⟩ := hv.open_
  by_cases hf : few19 l 60 = true
  case neg =>
    have hf2 : few19 l 60 = false := by simpa using hf
    clear hv hf
    go_enter Tryd.func5, Tryd.ntmps5
    go_wp2_with (first
      | (go_at_call 7; (with_reducible refine (KF.out).mono ?_); rintro e w1 ⟨rfl, b1⟩; rw [hf2]; have B1 := Lib.hid b1; clear b1)
      | (go_at_call 8; (with_reducible refine (alive19_any w1).mono ?_); rintro e w12 ⟨rfl, b12⟩; have B12 := Lib.hid (below_on B1.out b12); clear b12))
    go_ret
    exact ⟨rfl, B12.out⟩
  obtain ⟨hm1, hl⟩ := few19_yes hf
  have hm : l.length ≤ 60 := by omega
  have hl2 : ∀ x ∈ l, x.load.length ≤ 65536 := fun x hx => by have := hl x hx; omega
  have KR := Lib.hid (fun (W : World) (h : Below w.heap.size w W) => Right19_any (.slice A n c) l W (hv.below h) (by omega) hl2)
  by_cases hr : rr19 l = true
  case neg =>
    have hr2 : rr19 l = false := by simpa using hr
    clear hv hr
    go_enter Tryd.func5, Tryd.ntmps5
    go_wp2_with (first
      | (go_at_call 7; (with_reducible refine (KF.out).mono ?_); rintro e w1 ⟨rfl, b1⟩; rw [hf]; have B1 := Lib.hid b1; clear b1)
      | (go_at_call 12; (with_reducible refine (KR.out _ B1.out).mono ?_); rintro e w2 ⟨rfl, b2⟩; rw [scan19_eq, hr2]; have B2 := Lib.hid (below_on B1.out b2); clear b2)
      | (go_at_call 8; (with_reducible refine (alive19_any w2).mono ?_); rintro e w12 ⟨rfl, b12⟩; have B12 := Lib.hid (below_on B2.out b12); clear b12))
    go_ret
    exact ⟨rfl, B12.out⟩
  have HOK := Lib.hid (rr19_ok hr)
  have HR := Lib.hid hr
  have KO := Lib.hid (fun (f t : Int) (W : World) (h : Below w.heap.size w W) => (of19_any f t (.slice A n c) l W (hv.below h) (by omega) hl).mono (fun _ _ h => h.e.s))
  have KS := Lib.hid (fun (p : En → Bool) (u : Value) (W : World) (h : Ens W u (l.filter p)) => Right19_any u (l.filter p) W h (filter_len (by omega) p) (filter_load hl2 p))
  have HRF := Lib.hid (fun (p : En → Bool) => (scan19_eq (l.filter p)).trans (rr19_filter p hr))
  have HT := Lib.hid (totS_len HOK.out)
  have HB60 := Lib.hid (fun (a b : Nat) => (show (l.filter (sentB a b)).length ≤ 60 ∧ (l.filter (takenB a b)).length ≤ 60 from ⟨filter_len hm _, filter_len hm _⟩))
  clear hv hm1 hl hl2
  go_enter Tryd.func5, Tryd.ntmps5
  go_wp2_with (first
    | (go_at_call 7; (with_reducible refine (KF.out).mono ?_); rintro e w1 ⟨rfl, b1⟩; rw [hf]; have B1 := Lib.hid b1; clear b1)
    | (go_at_call 12; (with_reducible refine (KR.out _ B1.out).mono ?_); rintro e w2 ⟨rfl, b2⟩; rw [scan19_eq, hr]; have B2 := Lib.hid (below_on B1.out b2); clear b2))
  clear hf hr KF KR
  go_loopw [3, 4] (fun nv av wr => ∃ a T : Nat, a ≤ 8 ∧ T ≤ 960 * a ∧ av = .int .i64 a ∧ nv = .int .i64 T ∧ Hid (T = totS l a) ∧ Hid (Below w.heap.size w wr)) (fun _ av _ => 8 - (intOf av).toNat)
  case atStart => exact ⟨0, 0, by omega, by omega, rfl, rfl, Lib.hid rfl, B2⟩
  case round =>
    obtain ⟨a, T, ha, hT, rfl, rfl, ET, HB⟩ := hrel
    by_cases ha8 : a < 8
    · have hai : (a : Int) < 8 := by omega
      go_wp2
      go_loopw [3, 5] (fun nv bv wt => ∃ b S : Nat, b ≤ 8 ∧ S ≤ 960 * a + 120 * b ∧ bv = .int .i64 b ∧ nv = .int .i64 S ∧ Hid (S = totS l a + rowS l a b) ∧ Hid (Below w.heap.size w wt)) (fun _ bv _ => 8 - (intOf bv).toNat)
      case atStart => exact ⟨0, T, by omega, by omega, rfl, rfl, Lib.hid (by rw [ET.out]; rfl), HB⟩
      case round =>
        obtain ⟨b, S, hb, hS, rfl, rfl, ES, HB2⟩ := hrel
        by_cases hb8 : b < 8
        · have hbi : (b : Int) < 8 := by omega
          by_cases hab : a = b
          · have h0 := cnt_same HOK.out a
            have eab : ((a : Int) == (b : Int)) = true := by rw [beq_iff_eq]; omega
            have H0 := Lib.hid h0
            have HAB := Lib.hid hab
            clear h0 hab
            go_wp2_with (first
              | (go_at_call 9; (with_reducible refine (KO.out (a : Int) (b : Int) _ HB2.out).mono ?_); rintro e w3 ⟨A1, n1, c1, A2, n2, c2, rfl, N1, N2, E1, E2, b3⟩; obtain rfl : n1 = 0 := N1.symm.trans (HAB.out ▸ H0.out.1); obtain rfl : n2 = 0 := N2.symm.trans (HAB.out ▸ H0.out.2); have HN1 := Lib.hid N1; have HN2 := Lib.hid N2; have HE1 := Lib.hid E1; have HE2 := Lib.hid E2; have B3 := Lib.hid (below_on HB2.out b3); clear N1 N2 E1 E2 b3)
              | (go_at_call 12; (with_reducible refine (KS.out _ _ _ HE1.out).mono ?_); rintro e w4 ⟨rfl, b4⟩; rw [HRF.out]; have HE2' := Lib.hid (HE2.out.below b4); have B4 := Lib.hid (below_on B3.out b4); clear b4)
              | (go_at_call 12; (with_reducible refine (KS.out _ _ _ HE2'.out).mono ?_); rintro e w5 ⟨rfl, b5⟩; rw [HRF.out]; have B5 := Lib.hid (below_on B4.out b5); clear b5))
            go_roundw
            case rel => exact ⟨b + 1, S, by omega, by omega, by go_num, by go_num, Lib.hid (by rw [ES.out, rowS_succ]; unfold cnt19; rw [HN1.out, HN2.out]; omega), B5⟩
            case measure => simp [intOf]; omega
          · have eab : ((a : Int) == (b : Int)) = false := by simpa using (by omega : (a : Int) ≠ b)
            clear hab
            go_wp2_with (first
              | (go_at_call 9; (with_reducible refine (KO.out (a : Int) (b : Int) _ HB2.out).mono ?_); rintro e w3 ⟨A1, n1, c1, A2, n2, c2, rfl, N1, N2, E1, E2, b3⟩; have z1 : n1 ≤ 60 := Nat.le_trans (Nat.le_of_eq N1.symm) (HB60.out a b).1; have z2 : n2 ≤ 60 := Nat.le_trans (Nat.le_of_eq N2.symm) (HB60.out a b).2; have HN1 := Lib.hid N1; have HN2 := Lib.hid N2; have HE1 := Lib.hid E1; have HE2 := Lib.hid E2; have B3 := Lib.hid (below_on HB2.out b3); clear N1 N2 E1 E2 b3)
              | (go_at_call 12; (with_reducible refine (KS.out _ _ _ HE1.out).mono ?_); rintro e w4 ⟨rfl, b4⟩; rw [HRF.out]; have HE2' := Lib.hid (HE2.out.below b4); have B4 := Lib.hid (below_on B3.out b4); clear b4)
              | (go_at_call 12; (with_reducible refine (KS.out _ _ _ HE2'.out).mono ?_); rintro e w5 ⟨rfl, b5⟩; rw [HRF.out]; have B5 := Lib.hid (below_on B4.out b5); clear b5))
            go_roundw
            case rel => exact ⟨b + 1, S + n1 + n2, by omega, by omega, by go_num, by go_num, Lib.hid (by rw [ES.out, rowS_succ]; unfold cnt19; rw [HN1.out, HN2.out]; omega), B5⟩
            case measure => simp [intOf]; omega
        · obtain rfl : b = 8 := by omega
          go_wp2
          go_roundw
          case rel => exact ⟨a + 1, S, by omega, by omega, by go_num, rfl, Lib.hid (by rw [ES.out, totS_succ]), HB2⟩
          case measure => simp [intOf]; omega
    · obtain rfl : a = 8 := by omega
      have hTn : T = n := by rw [ET.out, HT.out, HN.out]
      subst hTn
      go_wp2_with (go_at_call 8; (with_reducible refine (alive19_any _).mono ?_); rintro e w12 ⟨rfl, b12⟩; have B12 := Lib.hid (below_on HB.out b12); clear b12)
      go_ret
      exact ⟨rfl, B12.out⟩

#print axioms diaryParts_any
end Go.Proofs.YtikjokhpombjjaaDoor
