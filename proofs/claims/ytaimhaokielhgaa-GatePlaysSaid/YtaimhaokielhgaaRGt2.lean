/-
  Layer 11 (gate): the reference's Hold, Start, Do, Same.
  Conditions: those that each theorem states.
-/
import Derived.Test.YtaimhaokielhgaaRGt
namespace Go.Proofs.Ytaimhaokielhgaa
open Go.ChangeShapes Go.WideShapes Go.ChangeAt Go.RowKit

/-- What a call of the reference leaves: its gate, and the error. -/
def RGateP (P : Nat → Prop) (l : List (Int × Bool)) (E : Int) (w : World) (e : Ending) (w' : World) : Prop :=
  ∃ v, e = .returned (.tuple #[v, .int .i64 E]) ∧ RGate w' P l v ∧ Below w.heap.size w w'

set_option maxRecDepth 100000 in
set_option maxHeartbeats 2000000 in
theorem rhold11_any (P : Nat → Prop) (v : Value) (l : List (Int × Bool)) (c : Int) (w : World) (r : RGate w P l v) (h8 : l.length ≤ 8) (hP : ∀ b, w.heap.size ≤ b → P b) :
    Calls Try.prog 25 #[v, .int .i64 c] w (RGateP P (holdL l c) (holdE l c) w) := by
  obtain ⟨A, n, d, rfl, HN, R⟩ := r.open_
  have k1 := Lib.hid (fun W => rhas11 l A n d c W HN.out)
  rcases cr_cases l c with ⟨h, h0⟩ | ⟨k, e, p, rfl, hk, h⟩
  · rw [show hasB l c = false from by unfold hasB; rw [h]; rfl] at k1
    rw [show holdL l c = l from by unfold holdL; rw [h], show holdE l c = 3 from by unfold holdE; rw [h]]
    clear h h0 r
    go_enter Try.func25, Try.ntmps25
    go_wp2_with fail
    refine (k1.out _).mono ?_
    rintro e w' ⟨rfl, rfl⟩
    go_wp2
    go_ret2
    exact ⟨_, rfl, R.out, Below.refl _ _⟩
  · rw [show hasB l k = true from by unfold hasB; rw [cr_nat, h]; rfl] at k1
    obtain ⟨g, o, rfl, _, hg, ce, cb⟩ := R.out.core h
    have wi := Lib.hid (rwith11_any P (.slice (some ⟨g, o, none⟩) n d) l k e true w R.out hk h8)
    rw [HN.out] at hk
    have b1 : (k : Int) < (n : Int) := by omega
    have HPP := Lib.hid hP
    cases p with
    | true =>
      rw [show holdL l k = l from by unfold holdL; rw [cr_nat, h], show holdE l k = 11 from by unfold holdE; rw [cr_nat, h]]
      clear h r hP wi
      go_enter Try.func25, Try.ntmps25
      go_wp2_with fail
      refine (k1.out _).mono ?_
      rintro e w' ⟨rfl, rfl⟩
      go_wp2
      go_ret2
      exact ⟨_, rfl, R.out, Below.refl _ _⟩
    | false =>
      rw [show holdL l k = l.set k (e, true) from by unfold holdL; rw [cr_nat, h]; rfl, show holdE l k = 0 from by unfold holdE; rw [cr_nat, h]]
      clear h r hP
      go_enter Try.func25, Try.ntmps25
      go_wp2_with fail
      refine (k1.out _).mono ?_
      rintro e w' ⟨rfl, rfl⟩
      go_wp2_with fail
      refine wi.out.mono ?_
      rintro e w2 ⟨v2, rfl, r2, hb2⟩
      obtain ⟨A2, n2, c2, rfl, HN2, R2⟩ := r2.open_
      have HB2 := Lib.hid hb2
      clear r2 hb2
      go_wp2
      go_ret2
      exact ⟨_, rfl, R2.out.weak (fun b _ hb => HPP.out b hb), HB2.out⟩

set_option maxRecDepth 100000 in
set_option maxHeartbeats 2000000 in
theorem rstart11_any (P : Nat → Prop) (v : Value) (l : List (Int × Bool)) (c : Int) (w : World) (r : RGate w P l v) (h8 : l.length ≤ 8) (hP : ∀ b, w.heap.size ≤ b → P b) :
    Calls Try.prog 26 #[v, .int .i64 c] w (RGateP P (startL l c) (startE l c) w) := by
  obtain ⟨A, n, d, rfl, HN, R⟩ := r.open_
  have k1 := Lib.hid (fun W => rhas11 l A n d c W HN.out)
  rcases cr_cases l c with ⟨h, h0⟩ | ⟨k, e, p, rfl, hk, h⟩
  · rw [show hasB l c = false from by unfold hasB; rw [h]; rfl] at k1
    rw [show startL l c = l from by unfold startL; rw [h], show startE l c = 3 from by unfold startE; rw [h]]
    clear h h0 r
    go_enter Try.func26, Try.ntmps26
    go_wp2_with fail
    refine (k1.out _).mono ?_
    rintro e w' ⟨rfl, rfl⟩
    go_wp2
    go_ret2
    exact ⟨_, rfl, R.out, Below.refl _ _⟩
  · rw [show hasB l k = true from by unfold hasB; rw [cr_nat, h]; rfl] at k1
    obtain ⟨g, o, rfl, _, hg, ce, cb⟩ := R.out.core h
    have wi := Lib.hid (rwith11_any P (.slice (some ⟨g, o, none⟩) n d) l k (addW e 1) false w R.out hk h8)
    have AD := Lib.hid (fun W => radd_any e 1 W)
    rw [HN.out] at hk
    have b1 : (k : Int) < (n : Int) := by omega
    have HPP := Lib.hid hP
    cases p with
    | false =>
      rw [show startL l k = l from by unfold startL; rw [cr_nat, h], show startE l k = 13 from by unfold startE; rw [cr_nat, h]]
      clear h r hP wi
      go_enter Try.func26, Try.ntmps26
      go_wp2_with fail
      refine (k1.out _).mono ?_
      rintro e w' ⟨rfl, rfl⟩
      go_wp2
      go_ret2
      exact ⟨_, rfl, R.out, Below.refl _ _⟩
    | true =>
      rw [show startL l k = l.set k (addW e 1, false) from by unfold startL; rw [cr_nat, h]; rfl, show startE l k = 0 from by unfold startE; rw [cr_nat, h]]
      clear h r hP
      go_enter Try.func26, Try.ntmps26
      go_wp2_with fail
      refine (k1.out _).mono ?_
      rintro e w' ⟨rfl, rfl⟩
      go_wp2_with fail
      refine (AD.out _).mono ?_
      rintro e w' ⟨rfl, rfl⟩
      go_wp2_with fail
      refine wi.out.mono ?_
      rintro e w2 ⟨v2, rfl, r2, hb2⟩
      obtain ⟨A2, n2, c2, rfl, HN2, R2⟩ := r2.open_
      have HB2 := Lib.hid hb2
      clear r2 hb2
      go_wp2
      go_ret2
      exact ⟨_, rfl, R2.out.weak (fun b _ hb => HPP.out b hb), HB2.out⟩

set_option maxRecDepth 100000 in
set_option maxHeartbeats 2000000 in
theorem rdo11_any (P : Nat → Prop) (v : Value) (l : List (Int × Bool)) (K c : Int) (w : World) (r : RGate w P l v) (h8 : l.length ≤ 8) (hP : ∀ b, w.heap.size ≤ b → P b) :
    Calls Try.prog 9 #[v, opV11 K c] w (RGateP P (dG l K c) (dE11 l K c) w) := by
  have B1 := below_al w (.cells #[.int .i64 K, .int .i64 c] 24)
  have kh := Lib.hid (rhold11_any P v l c _ (r.below B1) h8 (fun b hb => hP b (Nat.le_trans B1.size hb)))
  have ks := Lib.hid (rstart11_any P v l c _ (r.below B1) h8 (fun b hb => hP b (Nat.le_trans B1.size hb)))
  obtain ⟨A, n, d, rfl, HN, R⟩ := r.open_
  have HB1 := Lib.hid B1
  clear B1 r hP
  unfold opV11 dG dE11
  by_cases h0 : K = 0
  · subst h0
    simp only [if_true]
    clear ks
    go_enter Try.func9, Try.ntmps9
    go_wp2_with fail
    refine kh.out.mono ?_
    rintro e w2 ⟨v2, rfl, r2, hb2⟩
    obtain ⟨A2, n2, c2, rfl, HN2, R2⟩ := r2.open_
    have HB2 := Lib.hid hb2
    clear r2 hb2
    go_wp2
    go_ret2
    exact ⟨_, rfl, R2.out, below_on HB1.out HB2.out⟩
  · by_cases h1 : K = 1
    · subst h1
      simp only [if_neg h0, if_true]
      clear kh
      go_enter Try.func9, Try.ntmps9
      go_wp2_with fail
      refine ks.out.mono ?_
      rintro e w2 ⟨v2, rfl, r2, hb2⟩
      obtain ⟨A2, n2, c2, rfl, HN2, R2⟩ := r2.open_
      have HB2 := Lib.hid hb2
      clear r2 hb2
      go_wp2
      go_ret2
      exact ⟨_, rfl, R2.out, below_on HB1.out HB2.out⟩
    · simp only [if_neg h0, if_neg h1]
      have q0 : (K == 0) = false := by simpa using h0
      have q1 : (K == 1) = false := by simpa using h1
      clear kh ks h0 h1
      go_enter Try.func9, Try.ntmps9
      go_wp2
      go_ret2
      exact ⟨_, rfl, R.out.below HB1.out, HB1.out⟩

set_option maxRecDepth 100000 in
theorem eql_cr (a c : Int) (b d : Bool) (W : World) : (binOp .eql 43 (.agg #[.int .i64 a, .bool b]) (.agg #[.int .i64 c, .bool d])).run Try.prog W = .ok (.bool (a == c && b == d)) W := by
  have u3 := Try.underlying3
  have a3 := Try.isAgg3
  have z3 := Try.sizeOf3
  have u4 := Try.underlying4
  have a4 := Try.isAgg4
  have z4 := Try.sizeOf4
  have hS : Try.prog.underlying 43 = some (.struct (Try.prog.fieldsOf 43)) := by kernel_rfl
  have hp : Try.prog.stoodInHeld 43 = false := by kernel_rfl
  rw [run_eql_struct, show (10000 : Nat) = 9999 + 1 from rfl, run_equalIn_agg W 9999 43 _ _ hS hp]
  simp only [Program.fieldsOf, Try.underlying43]
  go_simp
  by_cases h1 : a = c <;> by_cases h2 : b = d <;> simp [h1, h2]

set_option maxRecDepth 100000 in
theorem neq_cr (a c : Int) (b d : Bool) (W : World) : (binOp .neq 43 (.agg #[.int .i64 a, .bool b]) (.agg #[.int .i64 c, .bool d])).run Try.prog W = .ok (.bool (!(a == c && b == d))) W := by
  have h := eql_cr a c b d W
  rw [run_eql_struct] at h
  rw [run_neq_struct]
  cases hr : (Op.equalIn 10000 43 (.agg #[.int .i64 a, .bool b]) (.agg #[.int .i64 c, .bool d])).run Try.prog W with
  | ok r w' =>
    rw [hr] at h
    simp only [Result.andThen_ok] at h ⊢
    injection h with h1 h2
    injection h1 with h1
    rw [h1, h2]
  | halt x w' =>
    rw [hr] at h
    simp [Result.andThen] at h

theorem core_guard : Try.prog.eqGuardType Try.prog.depth 43 = false := by kernel_rfl

theorem take_moreG {x y : List (Int × Bool)} {k : Nat} {u : Int × Bool} (h : x.take k = y.take k) (hx : x[k]? = some u) (hy : y[k]? = some u) : x.take (k + 1) = y.take (k + 1) := by
  rw [List.take_add_one, List.take_add_one, h, hx, hy]
theorem take_wholeG {x y : List (Int × Bool)} {k : Nat} (h : x.take k = y.take k) (hx : x.length = k) (hy : y.length = k) : x = y := by
  rwa [List.take_of_length_le (by omega), List.take_of_length_le (by omega)] at h

/-- Two cores are compared in a region that only reads. -/
theorem quiet_neqC {w0 : World} {o : Oper} {a : Act} {K : Act → Prop} (x y : Operand) (tt : TypeId) (ho : o.op = .binOp .neq 43 x y tt) (p q : Int) (b d r : Bool) (hx : a.eval x = .agg #[.int .i64 p, .bool b]) (hy : a.eval y = .agg #[.int .i64 q, .bool d])
    (hr : (!(p == q && b == d)) = r) (h : K (a.put o.dst (.bool r))) : o.quiet Try.prog a (fun w' => ∃ n, w' = w0.drewN n) K :=
  ⟨_, fun w _ => by
    unfold Oper.quietAt execOp
    simp only [ho, hx, hy, Sem.run_bind, run_eqGuard_agg w .neq 43 x y _ _ core_guard, Result.andThen_ok, neq_cr p q b d, hr, Sem.run_pure]
    exact ⟨rfl, rfl⟩, h⟩

set_option maxRecDepth 100000 in
set_option maxHeartbeats 4000000 in
theorem rsame11_any (P Q : Nat → Prop) (v u : Value) (x y : List (Int × Bool)) (w : World) (hv : RGate w P x v) (hu : RGate w Q y u) (hx8 : x.length ≤ 8) (hxy : x.length = y.length) :
    Calls Try.prog 21 #[v, u] w fun e w' => e = .returned (.bool (decide (x = y))) ∧ ∃ m, w' = w.drewN m := by
  obtain ⟨A, n, c, rfl, HN, RX⟩ := hv.open_
  obtain ⟨B, n2, d, rfl, HM, RY⟩ := hu.open_
  obtain rfl : n = n2 := by rw [← HN.out, ← HM.out]; exact hxy
  rw [HN.out] at hx8
  clear hv hu hxy
  go_enter Try.func21, Try.ntmps21
  go_wp2
  go_loopw [5] (fun i wr => ∃ k : Nat, k ≤ n ∧ i = .int .i64 k ∧ Hid (x.take k = y.take k) ∧ Hid (∃ q, wr = w.drewN q)) (fun i _ => n - (intOf i).toNat)
  case atStart => exact ⟨0, Nat.zero_le _, rfl, by unfold Hid; simp, Lib.hid ⟨0, rfl⟩⟩
  case round =>
    obtain ⟨k, hk, rfl, ht, hq⟩ := hrel
    obtain ⟨q, rfl⟩ := hq.out
    by_cases hlt : k < n
    · obtain ⟨⟨p, b⟩, ha⟩ : ∃ a, x[k]? = some a := ⟨_, List.getElem?_eq_getElem (by rw [HN.out]; exact hlt)⟩
      obtain ⟨⟨p', b'⟩, hb'⟩ : ∃ b, y[k]? = some b := ⟨_, List.getElem?_eq_getElem (by rw [HM.out]; exact hlt)⟩
      obtain ⟨g, o, rfl, _, hg, c0, c1⟩ := RX.out.core ha
      obtain ⟨g', o', rfl, _, hg', d0, d1⟩ := RY.out.core hb'
      have hkn : (k : Int) < (n : Int) := by omega
      have A1 := Lib.hid ha; clear ha
      have B1 := Lib.hid hb'; clear hb'
      by_cases he : p = p' ∧ b = b'
      · obtain ⟨rfl, rfl⟩ := he
        go_wp2
        refine wp_region_quiet_lit (by kernel_rfl) (by kernel_rfl) ?_
        iterate 8 go_big_quiet_step (fail)
        go_big_quiet_want
        refine quiet_neqC (.tmp 20) (.tmp 24) _ rfl p p b b false rfl rfl (by simp) ?_
        go_big_quiet_on
        go_simp
        refine wpQuiet_nil ?_
        intro nq
        try go_simp
        go_wp2
        go_roundw
        case rel => exact ⟨k + 1, by omega, by go_num, Lib.hid (take_moreG ht.out A1.out B1.out), Lib.hid ⟨_, rfl⟩⟩
        case measure => simp [intOf]; omega
      · have hxy : decide (x = y) = false := by
          rw [decide_eq_false_iff_not]
          rintro rfl
          exact he (by have := A1.out.symm.trans B1.out; injection this with this; injection this with h1 h2; exact ⟨h1, h2⟩)
        have HX := Lib.hid hxy; clear hxy
        have hr : (!(p == p' && b == b')) = true := by
          simp only [Bool.not_eq_true', Bool.and_eq_false_iff, beq_eq_false_iff_ne]
          by_cases e : p = p'
          · exact .inr (fun e2 => he ⟨e, e2⟩)
          · exact .inl e
        have HRR := Lib.hid hr
        clear he hr
        go_wp2
        refine wp_region_quiet_lit (by kernel_rfl) (by kernel_rfl) ?_
        iterate 8 go_big_quiet_step (fail)
        go_big_quiet_want
        refine quiet_neqC (.tmp 20) (.tmp 24) _ rfl p p' b b' true rfl rfl HRR.out ?_
        go_big_quiet_on
        go_simp
        refine wpQuiet_nil ?_
        intro nq
        try go_simp
        go_wp2
        go_ret
        exact ⟨by rw [HX.out]; rfl, _, rfl⟩
    · obtain rfl : k = n := by omega
      have hxy : decide (x = y) = true := by rw [decide_eq_true_iff]; exact take_wholeG ht.out HN.out HM.out
      have HX := Lib.hid hxy; clear hxy
      go_wp2
      go_ret
      exact ⟨by rw [HX.out]; rfl, _, rfl⟩

#print axioms rdo11_any
#print axioms rsame11_any
end Go.Proofs.Ytaimhaokielhgaa
