/-
  Layer 8 (site): Encode, Count, Decode, for parts in numbers.
  Conditions: those that each theorem states.
-/
import Derived.Test.YtbjmekedlmoolaaSite3
namespace Go.Proofs.Ytbjmekedlmoolaa
open Go.ChangeShapes Go.WideShapes Go.ChangeAt Go.RowKit

/-- What the parts of a plan are, in numbers. -/
structure PartsAt (c n l : Int) (fB fI fS fR : Int → Int) : Prop where
  part : ∀ k w, Calls Try.prog 16 #[v3 c n l, .int .i64 k] w fun e w' => e = .returned (v4 (fB k) (fI k) (fS k) (fR k)) ∧ Below w.heap.size w w'
  span : ∀ k, fI k = 0 ∨ 1 ≤ fS k
  low : ∀ k, 0 ≤ fB k ∧ fB k ≤ 100000
  regs : ∀ k, fR k ≤ fS k
  most : ∀ k i r, hasP (fI k) (fR k) i r → 0 ≤ i * fS k ∧ i * fS k ≤ 100000 ∧ 0 ≤ r ∧ r ≤ 100000
  prod : ∀ k, 0 ≤ fI k * fR k ∧ fI k * fR k ≤ 100000

set_option maxRecDepth 100000 in
set_option maxHeartbeats 1000000 in
theorem encode_at (c n l k i r : Int) (fB fI fS fR : Int → Int) (H : PartsAt c n l fB fI fS fR) (w : World) :
    Calls Try.prog 14 #[v3 c n l, v3 k i r] w fun e w' => (∃ a b, e = .returned (.tuple #[.int .i64 a, .bool b]) ∧ ((b = true ∧ hasP (fI k) (fR k) i r ∧ a = fB k + i * fS k + r) ∨ (b = false ∧ ¬ hasP (fI k) (fR k) i r ∧ a = 0))) ∧ Below w.heap.size w w' := by
  have HP := Lib.hid (H.part k)
  have HM := H.most k i r
  obtain ⟨B, hB⟩ : ∃ B, fB k = B := ⟨_, rfl⟩
  obtain ⟨I, hI⟩ : ∃ B, fI k = B := ⟨_, rfl⟩
  obtain ⟨S, hS⟩ : ∃ B, fS k = B := ⟨_, rfl⟩
  obtain ⟨R, hR⟩ : ∃ B, fR k = B := ⟨_, rfl⟩
  have hlow := H.low k
  rw [hB, hI, hS, hR] at HP
  rw [hI, hS, hR] at HM
  rw [hB] at hlow
  rw [hB, hI, hS, hR]
  clear hB hI hS hR H
  have HN := Lib.hid (fun W (hb : Below ((w.alloc (.cells #[.int .i64 c, .int .i64 n, .int .i64 l] 23)).alloc (.cells #[.int .i64 k, .int .i64 i, .int .i64 r] 25)).heap.size ((w.alloc (.cells #[.int .i64 c, .int .i64 n, .int .i64 l] 23)).alloc (.cells #[.int .i64 k, .int .i64 i, .int .i64 r] 25)) W) =>
    (show Row W (w.heap.size + 1) 25 [.int .i64 k, .int .i64 i, .int .i64 r] ∧ Below w.heap.size w W from
      ⟨by simpa using (Row.new (w.alloc (.cells #[.int .i64 c, .int .i64 n, .int .i64 l] 23)) 25 #[.int .i64 k, .int .i64 i, .int .i64 r]).below hb, below_on (below_on (below_al _ _) (below_al _ _)) hb⟩))
  have HH := Lib.hid (has8_any B I S R i r)
  unfold v3 at HP ⊢
  unfold v4 at HP HH
  by_cases hh : hasP I R i r
  · have HD := Lib.hid (decide_eq_true hh)
    obtain ⟨m1, m2, m3, m4⟩ := HM hh
    obtain ⟨s, hs⟩ : ∃ s, i * S = s := ⟨_, rfl⟩
    rw [hs] at m1 m2 ⊢
    have HQ := Lib.hid hh
    clear hh HM
    go_enter Try.func14, Try.ntmps14
    go_wp2_with fail
    refine (HP.out _).mono ?_
    rintro e w1 ⟨rfl, hb1⟩
    obtain ⟨r1, hb⟩ := HN.out _ hb1
    have c1 := r1.cell 1
    have c2 := r1.cell 2
    simp only [List.getElem?_cons_zero, List.getElem?_cons_succ] at c1 c2
    have hs1 := hb.size
    have hlt := r1.lt
    have HR1 := Lib.hid r1
    have HB1 := Lib.hid hb
    clear r1 hb hb1
    go_wp2_with fail
    refine (HH.out _).mono ?_
    rintro e w2 ⟨rfl, hb2⟩
    rw [HD.out]
    have r2 := (HR1.out.below (below_al w1 (.cells #[.int .i64 B, .int .i64 I, .int .i64 S, .int .i64 R] 45))).below hb2
    have q2 := (Row.new w1 45 #[.int .i64 B, .int .i64 I, .int .i64 S, .int .i64 R]).below hb2
    have c1 := r2.cell 1
    have c2 := r2.cell 2
    have d0 := q2.cell 0
    have d2 := q2.cell 2
    simp only [List.getElem?_cons_zero, List.getElem?_cons_succ] at c1 c2 d0 d2
    have HB2 := Lib.hid (below_on (below_on HB1.out (below_al w1 (.cells #[.int .i64 B, .int .i64 I, .int .i64 S, .int .i64 R] 45))) hb2)
    clear r2 q2 hb2
    go_wp2
    go_ret2
    exact ⟨⟨_, _, rfl, .inl ⟨rfl, HQ.out, by omega⟩⟩, HB2.out⟩
  · have HD := Lib.hid (decide_eq_false hh)
    have HQ := Lib.hid hh
    clear hh HM
    go_enter Try.func14, Try.ntmps14
    go_wp2_with fail
    refine (HP.out _).mono ?_
    rintro e w1 ⟨rfl, hb1⟩
    obtain ⟨r1, hb⟩ := HN.out _ hb1
    have c1 := r1.cell 1
    have c2 := r1.cell 2
    simp only [List.getElem?_cons_zero, List.getElem?_cons_succ] at c1 c2
    have hs1 := hb.size
    have hlt := r1.lt
    have HB1 := Lib.hid hb
    clear r1 hb hb1
    go_wp2_with fail
    refine (HH.out _).mono ?_
    rintro e w2 ⟨rfl, hb2⟩
    rw [HD.out]
    have HB2 := Lib.hid (below_on (below_on HB1.out (below_al w1 (.cells #[.int .i64 B, .int .i64 I, .int .i64 S, .int .i64 R] 45))) hb2)
    clear hb2
    go_wp2
    go_ret2
    exact ⟨⟨_, _, rfl, .inr ⟨rfl, HQ.out, rfl⟩⟩, HB2.out⟩

set_option maxRecDepth 100000 in
set_option maxHeartbeats 1000000 in
theorem count_at (c n l : Int) (fB fI fS fR : Int → Int) (H : PartsAt c n l fB fI fS fR) (T : Nat → Int) (h1 : T 1 = 0) (hT : ∀ k : Nat, T (k + 1) = T k + fI k * fR k) (w : World) :
    Calls Try.prog 11 #[v3 c n l] w fun e w' => e = .returned (.int .i64 (T 5)) ∧ Below w.heap.size w w' := by
  have HP := Lib.hid (fun k : Nat => H.part (k : Int))
  have hbd : ∀ k : Nat, k ≤ 4 → 0 ≤ T (k + 1) ∧ T (k + 1) ≤ 100000 * k := by
    intro k hk
    induction k with
    | zero => simp [h1]
    | succ k ih =>
      have := ih (by omega)
      have h2 := H.prod (((k + 1 : Nat)) : Int)
      have h3 := hT (k + 1)
      rw [h3]
      constructor
      · omega
      · have : ((100000 : Int) * ((k + 1 : Nat) : Int)) = 100000 * (k : Int) + 100000 := by omega
        omega
  have HT := Lib.hid hT
  have HBD := Lib.hid hbd
  have HPR := Lib.hid H.prod
  clear hT hbd H
  unfold v3 at HP ⊢
  unfold v4 at HP
  go_enter Try.func11, Try.ntmps11
  go_wp2
  go_loopw [3, 4] (fun s i wr => ∃ k : Nat, 1 ≤ k ∧ k ≤ 5 ∧ i = .int .i64 k ∧ s = .int .i64 (T k) ∧ Hid (Row wr w.heap.size 23 [.int .i64 c, .int .i64 n, .int .i64 l] ∧ Below w.heap.size w wr)) (fun _ i _ => 5 - (intOf i).toNat)
  case atStart => exact ⟨1, by omega, by omega, rfl, by rw [h1], Lib.hid ⟨Row.new w _ #[.int .i64 c, .int .i64 n, .int .i64 l], below_al _ _⟩⟩
  case round =>
    obtain ⟨k, hk1, hk5, rfl, rfl, HA⟩ := hrel
    obtain ⟨hrow, hb⟩ := HA.out
    have c0 := hrow.cell 0
    have c1 := hrow.cell 1
    have c2 := hrow.cell 2
    simp only [List.getElem?_cons_zero, List.getElem?_cons_succ] at c0 c1 c2
    clear hrow hb
    by_cases hlt : k ≤ 4
    · have PK := Lib.hid (HP.out k)
      have hp := HPR.out (k : Int)
      have ht := HT.out k
      have hd := HBD.out (k - 1) (by omega)
      rw [show k - 1 + 1 = k from by omega] at hd
      obtain ⟨B, hB⟩ : ∃ B, fB k = B := ⟨_, rfl⟩
      obtain ⟨I, hI⟩ : ∃ B, fI k = B := ⟨_, rfl⟩
      obtain ⟨S, hS⟩ : ∃ B, fS k = B := ⟨_, rfl⟩
      obtain ⟨R, hR⟩ : ∃ B, fR k = B := ⟨_, rfl⟩
      rw [hB, hI, hS, hR] at PK
      rw [hI, hR] at hp ht
      clear hB hI hS hR
      have hd2 : T k ≤ 1000000 := by omega
      have hd1 := hd.1
      clear hd
      obtain ⟨t, htk⟩ : ∃ t, T k = t := ⟨_, rfl⟩
      rw [htk] at ht hd1 hd2 ⊢
      have HT1 := Lib.hid ht
      clear ht htk
      go_wp2_with fail
      refine (PK.out _).mono ?_
      rintro e w1 ⟨rfl, hb1⟩
      have HB1 := Lib.hid hb1
      clear hb1
      go_wp2
      go_roundw
      case rel => exact ⟨k + 1, by omega, by omega, by go_num, by rw [HT1.out], Lib.hid ⟨(HA.out.1.below HB1.out).below (below_al _ _), below_on (below_on HA.out.2 HB1.out) (below_al _ _)⟩⟩
      case measure => simp [intOf]; omega
    · obtain rfl : k = 5 := by omega
      go_wp2
      go_ret
      exact ⟨rfl, HA.out.2⟩

#print axioms encode_at
#print axioms count_at
end Go.Proofs.Ytbjmekedlmoolaa
