/-
  The walk of the law GatePlays: it returns true for every input, and nothing that was there before the call changes.
  Conditions: none.
-/
import Derived.Test.YtaimhaokielhgaaRGt2
import Derived.Test.YtaimhaokielhgaaGt6
namespace Go.Proofs.Ytaimhaokielhgaa
open Go.ChangeShapes Go.WideShapes Go.ChangeAt Go.RowKit

/-- The state of the law's loops: the gate, the reference's gate, the call more in block B. -/
structure Play11 (w wr : World) (g B : Nat) (l : List (Int × Bool)) (A : Option Addr) (n c : Nat) (K x : Int) : Prop where
  gate : GateAt wr g l
  ref : RGate wr (fun b => b ≠ g) l (.slice A n c)
  more : Row wr B 24 [.int .i64 K, .int .i64 x]
  below : Below w.heap.size w wr
  new : w.heap.size ≤ g ∧ B ≠ g
theorem Play11.quiet {w wr w2 : World} {g B : Nat} {l : List (Int × Bool)} {A : Option Addr} {n c : Nat} {K x : Int} (s : Play11 w wr g B l A n c K x) (hb : Below wr.heap.size wr w2) : Play11 w w2 g B l A n c K x :=
  ⟨s.gate.below hb, s.ref.below hb, s.more.below hb, below_on s.below hb, s.new⟩
theorem Play11.step {w w2 w4 : World} {g B : Nat} {l l' : List (Int × Bool)} {A A2 : Option Addr} {n c n2 c2 : Nat} {K x : Int} (s : Play11 w w2 g B l A n c K x) (hv : RGate w2 (fun b => b ≠ g) l' (.slice A2 n2 c2)) (r : GateAt w4 g l') (ho : Only (· = g) w2 w4) : Play11 w w4 g B l' A2 n2 c2 K x :=
  ⟨r, hv.only ho (fun _ e hp => hp e), s.more.only ho s.new.2, below_gate s.below s.new.1 ho, s.new⟩

theorem rlink_b {P : Nat → Prop} {v : Value} {l : List (Int × Bool)} {wr : World} (r : RGate wr P l v) (a b : Int) : Calls Try.prog 18 #[v, .int .i64 a, .int .i64 b] wr fun e w' => e = .returned (.tuple #[.int .i64 (linkV l a b), .int .i64 (linkE l a b)]) ∧ Below wr.heap.size wr w' :=
  (rlink11_any P v l a b wr r).mono fun _ _ ⟨he, n, hn⟩ => ⟨he, by rw [hn]; exact below_q _ _⟩
theorem plink_b {g : Nat} {l : List (Int × Bool)} {wr : World} (r : GateAt wr g l) (a b : Int) : Calls Try.prog 17 #[.pointer (some ⟨g, 0, none⟩), .int .i64 a, .int .i64 b] wr fun e w' => e = .returned (.tuple #[.int .i64 (linkV l a b), .int .i64 (linkE l a b)]) ∧ Below wr.heap.size wr w' :=
  (link11_any g l a b wr r).mono fun _ _ ⟨he, n, hn⟩ => ⟨he, by rw [hn]; exact below_q _ _⟩
theorem rsame_b {P Q : Nat → Prop} {v u : Value} {x y : List (Int × Bool)} {w : World} (hv : RGate w P x v) (hu : RGate w Q y u) (hx8 : x.length ≤ 8) (hxy : x.length = y.length) : Calls Try.prog 21 #[v, u] w fun e w' => e = .returned (.bool (decide (x = y))) ∧ Below w.heap.size w w' :=
  (rsame11_any P Q v u x y w hv hu hx8 hxy).mono fun _ _ ⟨he, n, hn⟩ => ⟨he, by rw [hn]; exact below_q _ _⟩
theorem has_q (l : List (Int × Bool)) (A : Option Addr) (n d : Nat) (c : Int) (hn : l.length = n) (w : World) (m : Nat) : Calls Try.prog 15 #[.slice A n d, .int .i64 c] (w.drewN m) fun e w' => e = .returned (.bool (hasB l c)) ∧ ∃ k, w' = w.drewN k :=
  (rhas11 l A n d c _ hn).mono fun _ _ ⟨he, hw⟩ => ⟨he, m, hw.symm⟩
theorem up_q {g : Nat} {l : List (Int × Bool)} (c : Int) {w : World} (r : GateAt w g l) (m : Nat) : Calls Try.prog 16 #[.pointer (some ⟨g, 0, none⟩), .int .i64 c] (w.drewN m) fun e w' => e = .returned (.bool (upB l c)) ∧ ∃ k, w' = w.drewN k :=
  (up11_any g l c _ (r.below (below_q _ _))).mono fun _ _ ⟨he, hw⟩ => ⟨he, m, hw.symm⟩

/-- What a list of a call's own reads as, elsewhere. -/
theorem DownP.same {xs : List Int} {v u : Value} {w2 w3 : World} {b1 b2 : Nat} (h1 : w2.ownsRow b1 3 1 v xs.length (ints xs)) (hb : Below w2.heap.size w2 w3) (h2 : w3.ownsRow b2 3 1 u xs.length (ints xs)) (hx : xs.length ≤ 65536) :
    Calls Try.prog 11 #[v, u] w3 fun e w' => e = .returned (.bool true) ∧ Below w3.heap.size w3 w' :=
  rsame_yes _ _ v u xs w3 ((Lies.of_own h1).below hb) (Lies.of_own h2) hx

theorem own_is {w : World} {base : Nat} {e : TypeId} {size : Nat} {v : Value} {k : Nat} {xs : List Value} (h : w.ownsRow base e size v k xs) : ∃ A c, v = .slice A k c := by
  obtain ⟨hl, h2⟩ := h
  rcases h2 with ⟨rfl, h0⟩ | ⟨g, cap, cur, rfl, _⟩
  · exact ⟨none, 0, by rw [h0]⟩
  · exact ⟨_, cap, rfl⟩

theorem made11 (C : Nat) (w : World) : RGate (w.alloc (.cells (madeCells #[.int .i64 0, .bool false] (C * 2)) 43)) (fun b => w.heap.size ≤ b) (newG C) (.slice (some ⟨w.heap.size, 0, none⟩) C C) := by
  refine ⟨⟨_, C, by rw [rc_len]; simp [newG], fun _ => ⟨w.heap.size, 0, rfl, Nat.le_refl _, by simp, fun j u hu => ?_⟩⟩, Nat.le_refl _⟩
  have hj : j < C * 2 := by have := (List.getElem?_eq_some_iff.1 hu).1; rw [flat_len, rc_len] at this; simpa [newG] using this
  have hi : j / 2 < C := by omega
  have h0 := made_at #[.int .i64 0, .bool false] 2 C (j / 2) (j % 2) rfl hi (by omega)
  have e : j / 2 * 2 + j % 2 = j := by omega
  rw [e] at h0
  rw [Nat.zero_add, Row.cell (Row.new w 43 _) j, h0, ← hu]
  have hr := flat_at (rc_at (l := newG C) (k := j / 2) (e := 0) (b := false) (by simp [newG, hi]))
  rcases Nat.mod_two_eq_zero_or_one j with hm | hm
  · rw [hm]
    have : (flat (rc (newG C)))[j]? = (flat (rc (newG C)))[j / 2 * 2]? := congrArg (fun i => (flat (rc (newG C)))[i]?) (by omega)
    rw [this, hr.1]
    rfl
  · rw [hm]
    have : (flat (rc (newG C)))[j]? = (flat (rc (newG C)))[j / 2 * 2 + 1]? := congrArg (fun i => (flat (rc (newG C)))[i]?) (by omega)
    rw [this, hr.2]
    rfl

/-- The memory behind the last call: both gates, and both of the reference. -/
structure End11 (w wr : World) (g g' : Nat) (l l' : List (Int × Bool)) (v v' : Value) : Prop where
  one : GateAt wr g l
  two : GateAt wr g' l'
  ref : RGate wr (fun b => b ≠ g' ∧ b ≠ g) l v
  ref' : RGate wr (fun b => b ≠ g' ∧ b ≠ g) l' v'
  below : Below w.heap.size w wr
theorem End11.quiet {w wr w2 : World} {g g' : Nat} {l l' : List (Int × Bool)} {v v' : Value} (s : End11 w wr g g' l l' v v') (hb : Below wr.heap.size wr w2) : End11 w w2 g g' l l' v v' :=
  ⟨s.one.below hb, s.two.below hb, s.ref.below hb, s.ref'.below hb, below_on s.below hb⟩

set_option maxRecDepth 100000 in
set_option maxHeartbeats 16000000 in
theorem gatePlays_main (C : Nat) (v : Value) (R : List (List Int)) (K' x' : Int) (w : World) (c0 : 1 ≤ C) (c8 : C ≤ 8) (hR : Recs w 2 v R) (hm : R.length ≤ 100) :
    Calls Try.prog 3 #[.int .i64 (C : Int), v, opV11 K' x'] w fun e w' => e = .returned (.bool true) ∧ Below w.heap.size w w' := by
  have HR := Lib.hid hR
  obtain ⟨A, d, rfl, hA⟩ := hR
  clear hA
  obtain ⟨m, hm'⟩ : ∃ m, R.length = m := ⟨_, rfl⟩
  rw [hm'] at hm HR ⊢
  have HM := Lib.hid hm'; clear hm'
  have g3 : ¬ (100 < (m : Int)) := by omega
  have nw := Lib.hid (fun W => new11_yes C W c0 c8)
  have is := Lib.hid (fun W => ris11_yes C W (by omega) (by omega))
  have hmk := fun W => run_make_rowN (P := Try.prog) 30 43 _ 2 16 Try.underlying30 core11_info .i64 .i64 C (by omega) (by omega) W
  unfold opV11
  go_enter Try.func3, Try.ntmps3
  go_wp2_with fail
  refine (nw.out _).mono ?_
  rintro e w1 ⟨g, rfl, r1, hg1, hb1⟩
  unfold ptr
  go_wp2_with fail
  refine (is.out _).mono ?_
  rintro e w' ⟨rfl, rfl⟩
  have hg2 : w.heap.size + 1 ≤ g := by simpa using hg1
  have hgl := r1.row.lt
  have MD := made11 C w1
  have MB := below_al w1 (.cells (madeCells #[.int .i64 0, .bool false] (C * 2)) 43)
  have s0 : Play11 w (w1.alloc (.cells (madeCells #[.int .i64 0, .bool false] (C * 2)) 43)) g w.heap.size (newG C) (some ⟨w1.heap.size, 0, none⟩) C C K' x' :=
    ⟨r1.below MB, MD.weak (fun b _ (h : w1.heap.size ≤ b) => by omega), ((Row.new w 24 #[.int .i64 K', .int .i64 x']).below hb1).below MB, below_on (below_on (below_al _ _) hb1) MB, by omega, by omega⟩
  have S0 := Lib.hid s0
  have HL0 : Hid ((newG C).length = C) := Lib.hid (by simp [newG])
  clear s0 r1 hg1 hb1 nw is MD MB hgl
  go_wp2
  clear hmk
  go_loopw [8, 44] (fun sv i wr => ∃ (k : Nat) (l : List (Int × Bool)) (A : Option Addr) (c : Nat), k ≤ m ∧ sv = .slice A C c ∧ i = .int .i64 k ∧ Hid (l.length = C) ∧ Hid (Play11 w wr g w.heap.size l A C c K' x')) (fun _ i _ => m - (intOf i).toNat)
  case atStart => exact ⟨0, _, _, _, Nat.zero_le _, rfl, rfl, HL0, S0⟩
  case round =>
    clear S0 HL0
    obtain ⟨k, l, A0, n0, hk, rfl, rfl, HL, S⟩ := hrel
    by_cases hlt : k < m
    · obtain ⟨ad, c', K, x, hzs, hv', z0, z1, hadl⟩ := Recs.two11 HR.out S.out.below (by rw [HM.out]; exact hlt)
      rw [HM.out] at hv'
      injection hv' with hv' _ hv2
      subst hv' hv2
      clear hzs
      have S1 := Lib.hid (S.out.quiet (below_al wr (.cells #[.int .i64 K, .int .i64 x] 24)))
      have IR := Lib.hid (Row.new wr 24 #[.int .i64 K, .int .i64 x])
      have hgl := S1.out.gate.row.lt
      have hgl0 := S.out.gate.row.lt
      have rd := Lib.hid (rdo11_any _ _ l K x _ S1.out.ref (by rw [HL.out]; exact c8) (fun b hb => by simp at hb; omega))
      have dl := dG_len l K x
      rw [HL.out] at dl
      obtain ⟨E, hE⟩ : ∃ E, dE11 l K x = E := ⟨_, rfl⟩
      obtain ⟨l', hl'⟩ : ∃ l', dG l K x = l' := ⟨_, rfl⟩
      have dd := Lib.hid (fun W r => do11_any g l K x W r)
      rw [hE, hl'] at rd dd
      rw [hl'] at dl
      have DL := Lib.hid dl
      unfold ptr opV11 at dd
      unfold opV11 at rd
      clear dl hE hl'
      go_wp2_with fail
      refine rd.out.mono ?_
      rintro e w2 ⟨v2, rfl, r2, hb2⟩
      obtain ⟨A2, n2, c2, rfl, HN2, R2⟩ := r2.open_
      obtain rfl : n2 = C := by rw [← HN2.out]; exact DL.out
      have S2 := Lib.hid (S1.out.quiet hb2)
      have I2 := IR.out.below hb2
      have o0 := I2.cell 0
      have o1 := I2.cell 1
      simp only [List.getElem?_cons_zero, List.getElem?_cons_succ] at o0 o1
      have DD := Lib.hid (dd.out w2 S2.out.gate)
      clear z0 z1 r2 hb2 rd S S1 I2 dd
      go_wp2_with fail
      refine DD.out.mono ?_
      rintro e w3 ⟨rfl, r3, ho3⟩
      have S3 := Lib.hid (S2.out.step R2.out r3 ho3)
      have hf : (E != E) = false := by simp
      have DN := Lib.hid (down11_any g l' w3 r3)
      have hx : (downL l' l'.length).length ≤ 65536 := by have := downL_len l' l'.length; rw [DL.out] at this ⊢; omega
      have HX := Lib.hid hx
      unfold ptr at DN
      clear r3 ho3 DD S2 R2 o0 o1 hx
      go_wp2_with fail
      refine DN.out.mono ?_
      rintro e w4 ⟨v4, rfl, own4, hb4⟩
      obtain ⟨A4, c4, rfl⟩ := own_is own4
      have S4 := Lib.hid (S3.out.quiet hb4)
      have O4 := Lib.hid own4
      have RD := Lib.hid (rdown11_any _ _ l' w4 S4.out.ref (by rw [DL.out]; exact c8))
      clear S3 own4 hb4 DN
      go_wp2_with fail
      refine RD.out.mono ?_
      rintro e w5 ⟨v5, rfl, own5, hb5⟩
      obtain ⟨A5, c5, rfl⟩ := own_is own5
      have S5 := Lib.hid (S4.out.quiet hb5)
      have SM := Lib.hid (DownP.same O4.out hb5 own5 HX.out)
      clear S4 own5 hb5 RD
      go_wp2_with fail
      refine SM.out.mono ?_
      rintro e w6 ⟨rfl, hb6⟩
      have S6 := Lib.hid (S5.out.quiet hb6)
      clear S5 hb6 SM
      go_wp2
      go_roundw
      case rel => exact ⟨k + 1, l', A2, c2, by omega, rfl, by go_num, DL, S6⟩
      case measure => simp [intOf]; omega
    · obtain rfl : k = m := by omega
      go_wp2
      go_loopw [13] (fun iv wo => ∃ av : Int, -1 ≤ av ∧ av ≤ C + 1 ∧ iv = .int .i64 av ∧ Hid (Play11 w wo g w.heap.size l A0 C n0 K' x')) (fun iv _ => (C + 1 - intOf iv).toNat)
      case atStart => exact ⟨-1, by omega, by omega, rfl, S⟩
      case round =>
        clear S
        obtain ⟨av, ha0, ha1, rfl, S⟩ := hrel
        by_cases hle : av ≤ C
        · have EP := Lib.hid (epoch11_any g l av wr S.out.gate)
          have HQ := Lib.hid (has_q l A0 C n0 av HL.out wr)
          have UQ := Lib.hid (up_q av S.out.gate)
          unfold ptr at EP
          rcases cr_cases l av with ⟨h, h0⟩ | ⟨k, e, b, rfl, hk', h⟩
          · rw [show epV l av = 0 from by unfold epV; rw [h], show ckG l av = 3 from by unfold ckG; rw [h]] at EP
            rw [show hasB l av = false from by unfold hasB; rw [h]; rfl] at HQ
            rw [show upB l av = false from by unfold upB; rw [h]] at UQ
            clear h h0
            go_wp2_with fail
            refine EP.out.mono ?_
            rintro e w' ⟨rfl, rfl⟩
            go_wp2_with fail
            go_quiet (first | (go_at_call 15; exact HQ.out _) | (go_at_call 16; exact UQ.out _))
            have S1 := Lib.hid (S.out.quiet (below_q _ nq))
            clear S EP HQ UQ
            go_wp2
            go_loopw [16] (fun iv wo => ∃ bv : Int, -1 ≤ bv ∧ bv ≤ C + 1 ∧ iv = .int .i64 bv ∧ Hid (Play11 w wo g w.heap.size l A0 C n0 K' x')) (fun iv _ => (C + 1 - intOf iv).toNat)
            case atStart => exact ⟨-1, by omega, by omega, rfl, S1⟩
            case round =>
              clear S1
              obtain ⟨bv, hb0, hb1, rfl, S⟩ := hrel
              by_cases hle2 : bv ≤ C
              · have LK := Lib.hid (plink_b S.out.gate av bv)
                obtain ⟨X, hX⟩ : ∃ X, linkV l av bv = X := ⟨_, rfl⟩
                obtain ⟨E, hE⟩ : ∃ E, linkE l av bv = E := ⟨_, rfl⟩
                have hXX : (X != X) = false := by simp
                have hEE : (E != E) = false := by simp
                rw [hX, hE] at LK
                go_wp2_with fail
                refine LK.out.mono ?_
                rintro e w2 ⟨rfl, hb2⟩
                have S2 := Lib.hid (S.out.quiet hb2)
                have RL := Lib.hid (rlink_b S2.out.ref av bv)
                rw [hX, hE] at RL
                clear S LK hb2 hX hE
                go_wp2_with fail
                refine RL.out.mono ?_
                rintro e w3 ⟨rfl, hb3⟩
                have S3 := Lib.hid (S2.out.quiet hb3)
                clear S2 RL hb3
                go_wp2
                go_roundw
                case rel => exact ⟨bv + 1, by omega, by omega, by go_num, S3⟩
                case measure => simp [intOf]; omega
              · have hgt : decide (bv ≤ (C : Int)) = false := by simpa using hle2
                go_wp2
                go_roundw
                case rel => exact ⟨av + 1, by omega, by omega, by go_num, S⟩
                case measure => simp [intOf]; omega
          · rw [show epV l k = e from by unfold epV; rw [cr_nat, h], show ckG l k = 0 from by unfold ckG; rw [cr_nat, h]] at EP
            rw [show hasB l k = true from by unfold hasB; rw [cr_nat, h]; rfl] at HQ
            rw [show upB l k = !b from by unfold upB; rw [cr_nat, h]] at UQ
            obtain ⟨q, o, rfl, _, hq, d0, d1⟩ := S.out.ref.core h
            have b1 : (k : Int) < (C : Int) := by rw [HL.out] at hk'; omega
            have b0 : (0 : Int) ≤ (k : Int) := by omega
            have he : (e != e) = false := by simp
            cases b with
            | true =>
              clear h hk'
              go_wp2_with fail
              refine EP.out.mono ?_
              rintro e w' ⟨rfl, rfl⟩
              go_wp2_with fail
              go_quiet (first | (go_at_call 15; exact HQ.out _) | (go_at_call 16; exact UQ.out _))
              have S1 := Lib.hid (S.out.quiet (below_q _ nq))
              clear S EP HQ UQ
              try go_simp
              go_wp2
              go_loopw [16] (fun iv wo => ∃ bv : Int, -1 ≤ bv ∧ bv ≤ C + 1 ∧ iv = .int .i64 bv ∧ Hid (Play11 w wo g w.heap.size l (some ⟨q, o, none⟩) C n0 K' x')) (fun iv _ => (C + 1 - intOf iv).toNat)
              case atStart => exact ⟨-1, by omega, by omega, rfl, S1⟩
              case round =>
                clear S1
                obtain ⟨bv, hb0, hb1, rfl, S⟩ := hrel
                by_cases hle2 : bv ≤ C
                · have LK := Lib.hid (plink_b S.out.gate (k : Int) bv)
                  obtain ⟨X, hX⟩ : ∃ X, linkV l (k : Int) bv = X := ⟨_, rfl⟩
                  obtain ⟨E, hE⟩ : ∃ E, linkE l (k : Int) bv = E := ⟨_, rfl⟩
                  have hXX : (X != X) = false := by simp
                  have hEE : (E != E) = false := by simp
                  rw [hX, hE] at LK
                  go_wp2_with fail
                  refine LK.out.mono ?_
                  rintro e w2 ⟨rfl, hb2⟩
                  have S2 := Lib.hid (S.out.quiet hb2)
                  have RL := Lib.hid (rlink_b S2.out.ref (k : Int) bv)
                  rw [hX, hE] at RL
                  clear S LK hb2 hX hE
                  go_wp2_with fail
                  refine RL.out.mono ?_
                  rintro e w3 ⟨rfl, hb3⟩
                  have S3 := Lib.hid (S2.out.quiet hb3)
                  clear S2 RL hb3
                  go_wp2
                  go_roundw
                  case rel => exact ⟨bv + 1, by omega, by omega, by go_num, S3⟩
                  case measure => simp [intOf]; omega
                · have hgt : decide (bv ≤ (C : Int)) = false := by simpa using hle2
                  go_wp2
                  go_roundw
                  case rel => exact ⟨(k : Int) + 1, by omega, by omega, by go_num, S⟩
                  case measure => simp [intOf]; omega
            | false =>
              clear h hk'
              go_wp2_with fail
              refine EP.out.mono ?_
              rintro e w' ⟨rfl, rfl⟩
              go_wp2_with fail
              go_quiet (first | (go_at_call 15; exact HQ.out _) | (go_at_call 16; exact UQ.out _))
              have S1 := Lib.hid (S.out.quiet (below_q _ nq))
              clear S EP HQ UQ
              try go_simp
              go_wp2
              go_loopw [16] (fun iv wo => ∃ bv : Int, -1 ≤ bv ∧ bv ≤ C + 1 ∧ iv = .int .i64 bv ∧ Hid (Play11 w wo g w.heap.size l (some ⟨q, o, none⟩) C n0 K' x')) (fun iv _ => (C + 1 - intOf iv).toNat)
              case atStart => exact ⟨-1, by omega, by omega, rfl, S1⟩
              case round =>
                clear S1
                obtain ⟨bv, hb0, hb1, rfl, S⟩ := hrel
                by_cases hle2 : bv ≤ C
                · have LK := Lib.hid (plink_b S.out.gate (k : Int) bv)
                  obtain ⟨X, hX⟩ : ∃ X, linkV l (k : Int) bv = X := ⟨_, rfl⟩
                  obtain ⟨E, hE⟩ : ∃ E, linkE l (k : Int) bv = E := ⟨_, rfl⟩
                  have hXX : (X != X) = false := by simp
                  have hEE : (E != E) = false := by simp
                  rw [hX, hE] at LK
                  go_wp2_with fail
                  refine LK.out.mono ?_
                  rintro e w2 ⟨rfl, hb2⟩
                  have S2 := Lib.hid (S.out.quiet hb2)
                  have RL := Lib.hid (rlink_b S2.out.ref (k : Int) bv)
                  rw [hX, hE] at RL
                  clear S LK hb2 hX hE
                  go_wp2_with fail
                  refine RL.out.mono ?_
                  rintro e w3 ⟨rfl, hb3⟩
                  have S3 := Lib.hid (S2.out.quiet hb3)
                  clear S2 RL hb3
                  go_wp2
                  go_roundw
                  case rel => exact ⟨bv + 1, by omega, by omega, by go_num, S3⟩
                  case measure => simp [intOf]; omega
                · have hgt : decide (bv ≤ (C : Int)) = false := by simpa using hle2
                  go_wp2
                  go_roundw
                  case rel => exact ⟨(k : Int) + 1, by omega, by omega, by go_num, S⟩
                  case measure => simp [intOf]; omega
        · have hgt : decide (av ≤ (C : Int)) = false := by simpa using hle
          have cl := Lib.hid (clone11_any g l _ S.out.gate)
          unfold ptr at cl
          go_wp2_with fail
          refine cl.out.mono ?_
          rintro e w2 ⟨g', rfl, r2, hg2', hb2⟩
          unfold ptr
          have hg'l := r2.row.lt
          have hgl := S.out.gate.row.lt
          have S2 := Lib.hid (S.out.quiet hb2)
          have R2 := Lib.hid r2
          have RF2 := Lib.hid ((S.out.ref.weak (Q := fun b => b ≠ g' ∧ b ≠ g) (fun b hb h => ⟨by omega, h⟩)).below hb2)
          have sm := Lib.hid (same11_any g g' l l w2 S2.out.gate r2)
          rw [show decide (l = l) = true from by simp] at sm
          have hs2 := hb2.size
          clear cl S hb2 r2
          go_wp2_with fail
          refine sm.out.mono ?_
          rintro e w3 ⟨rfl, hb3⟩
          have S3 := Lib.hid (S2.out.quiet hb3)
          have R3 := Lib.hid (R2.out.below hb3)
          have RF3 := Lib.hid (RF2.out.below hb3)
          have x0 := S3.out.more.cell 0
          have x1 := S3.out.more.cell 1
          simp only [List.getElem?_cons_zero, List.getElem?_cons_succ] at x0 x1
          have hs3 := hb3.size
          have rd := Lib.hid (rdo11_any _ _ l K' x' w3 RF3.out (by rw [HL.out]; exact c8) (fun b hb => by omega))
          have dl := dG_len l K' x'
          obtain ⟨E, hE⟩ : ∃ E, dE11 l K' x' = E := ⟨_, rfl⟩
          obtain ⟨l', hl'⟩ : ∃ l', dG l K' x' = l' := ⟨_, rfl⟩
          have dd := Lib.hid (fun W r => do11_any g' l K' x' W r)
          rw [hE, hl'] at rd dd
          rw [hl'] at dl
          have DL := Lib.hid dl
          unfold ptr opV11 at dd
          unfold opV11 at rd
          clear dl hE hl' S2 R2 RF2 sm hb3
          go_wp2_with fail
          refine rd.out.mono ?_
          rintro e w4 ⟨v4, rfl, r4, hb4⟩
          obtain ⟨A4, n4, c4, rfl, HN4, V4⟩ := r4.open_
          have S4 := Lib.hid (S3.out.quiet hb4)
          have R4 := Lib.hid (R3.out.below hb4)
          have RF4 := Lib.hid (RF3.out.below hb4)
          have y0 := S4.out.more.cell 0
          have y1 := S4.out.more.cell 1
          simp only [List.getElem?_cons_zero, List.getElem?_cons_succ] at y0 y1
          have hs4 := hb4.size
          have DD := Lib.hid (dd.out w4 R4.out)
          clear x0 x1 S3 R3 RF3 r4 hb4 rd dd
          go_wp2_with fail
          refine DD.out.mono ?_
          rintro e w5 ⟨rfl, r5, ho5⟩
          have hne : g ≠ g' := by omega
          have E5 := Lib.hid (show End11 w w5 g g' l l' (.slice A0 C n0) (.slice A4 n4 c4) from ⟨S4.out.gate.only ho5 hne, r5, RF4.out.only ho5 (fun b e hp => hp.1 e), V4.out.only ho5 (fun b e hp => hp.1 e), Only.below S4.out.below ho5 S4.out.below.size (fun b hb e => by have := S4.out.below.size; have := S4.out.new.1; omega)⟩)
          have hEE : (E == E) = true := by simp
          clear S4 R4 RF4 V4 y0 y1 r5 ho5 DD
          obtain ⟨D, hD⟩ : ∃ D, decide (l = l') = D := ⟨_, rfl⟩
          have k1 := Lib.hid (same11_any g g' l l' w5 E5.out.one E5.out.two)
          rw [hD] at k1
          have hDD : (D == D) = true := by simp
          go_wp2_with fail
          refine k1.out.mono ?_
          rintro e w6 ⟨rfl, hb6⟩
          have E6 := Lib.hid (E5.out.quiet hb6)
          clear E5 k1 hb6
          have k2 := Lib.hid (rsame_b E6.out.ref E6.out.ref' (by rw [HL.out]; exact c8) DL.out.symm)
          rw [hD] at k2
          clear hD
          go_wp2_with fail
          refine k2.out.mono ?_
          rintro e w7 ⟨rfl, hb7⟩
          have E7 := Lib.hid (E6.out.quiet hb7)
          clear E6 k2 hb7
          have DN1 := Lib.hid (down11_any g' l' w7 E7.out.two)
          unfold ptr at DN1
          go_wp2_with fail
          refine DN1.out.mono ?_
          rintro e w8 ⟨y1, rfl, own8, hb1⟩
          obtain ⟨B1, d1, rfl⟩ := own_is own8
          have E8 := Lib.hid (E7.out.quiet hb1)
          have OW1 := Lib.hid own8
          have HB1 := Lib.hid hb1
          clear E7 DN1 own8 hb1
          have DN2 := Lib.hid (rdown11_any _ _ l' w8 E8.out.ref' (by rw [DL.out, HL.out]; exact c8))
          go_wp2_with fail
          refine DN2.out.mono ?_
          rintro e w9 ⟨y2, rfl, own9, hb2⟩
          obtain ⟨B2, d2, rfl⟩ := own_is own9
          have E9 := Lib.hid (E8.out.quiet hb2)
          have OW2 := Lib.hid own9
          have HB2 := Lib.hid hb2
          clear E8 DN2 own9 hb2
          have k3 := Lib.hid (DownP.same OW1.out HB2.out OW2.out (by have := downL_len l' l'.length; rw [DL.out, HL.out] at this; rw [DL.out, HL.out]; omega))
          go_wp2_with fail
          refine k3.out.mono ?_
          rintro e w10 ⟨rfl, hb10⟩
          have E10 := Lib.hid (E9.out.quiet hb10)
          clear E9 k3 hb10
          have DN3 := Lib.hid (down11_any g l w10 E10.out.one)
          unfold ptr at DN3
          go_wp2_with fail
          refine DN3.out.mono ?_
          rintro e w11 ⟨y3, rfl, own11, hb3⟩
          obtain ⟨B3, d3, rfl⟩ := own_is own11
          have E11 := Lib.hid (E10.out.quiet hb3)
          have OW3 := Lib.hid own11
          have HB3 := Lib.hid hb3
          clear E10 DN3 own11 hb3
          have DN4 := Lib.hid (rdown11_any _ _ l w11 E11.out.ref (by rw [HL.out]; exact c8))
          go_wp2_with fail
          refine DN4.out.mono ?_
          rintro e w12 ⟨y4, rfl, own12, hb4⟩
          obtain ⟨B4, d4, rfl⟩ := own_is own12
          have E12 := Lib.hid (E11.out.quiet hb4)
          have OW4 := Lib.hid own12
          have HB4 := Lib.hid hb4
          clear E11 DN4 own12 hb4
          have k4 := Lib.hid (DownP.same OW3.out HB4.out OW4.out (by have := downL_len l l.length; rw [HL.out] at this; rw [HL.out]; omega))
          go_wp2_with fail
          refine k4.out.mono ?_
          rintro e w13 ⟨rfl, hb13⟩
          have E13 := Lib.hid (E12.out.quiet hb13)
          clear E12 k4 hb13
          go_wp2_with fail
          refine (alive11 _).mono ?_
          rintro e w14 ⟨rfl, hb14⟩
          have HB14 := Lib.hid (below_on E13.out.below hb14)
          clear hb14
          go_wp2
          go_ret
          exact ⟨rfl, HB14.out⟩

set_option maxRecDepth 100000 in
set_option maxHeartbeats 2000000 in
theorem gatePlays_any (n : Int) (v : Value) (R : List (List Int)) (K x : Int) (w : World) (hR : Recs w 2 v R) (hm : R.length ≤ maxLen) :
    Calls Try.prog 3 #[.int .i64 n, v, opV11 K x] w fun e w' => e = .returned (.bool true) ∧ Below w.heap.size w w' := by
  unfold maxLen at hm
  have al := Lib.hid (fun W => alive11 W)
  by_cases h1 : 100 < R.length
  · obtain ⟨A, cc, rfl, hA⟩ := hR
    clear hA
    have h1' : (100 : Int) < (R.length : Int) := by omega
    unfold opV11
    go_enter Try.func3, Try.ntmps3
    go_wp2_with fail
    refine (al.out _).mono ?_
    rintro e w3 ⟨rfl, hb3⟩
    go_wp2
    go_ret
    exact ⟨rfl, below_on (below_al _ _) hb3⟩
  · by_cases h3 : n < 1 ∨ 8 < n
    · obtain ⟨A, cc, rfl, hA⟩ := hR
      clear hA
      have h1' : ¬ ((100 : Int) < (R.length : Int)) := by omega
      have nw := Lib.hid (fun W => new11_no n W h3)
      have is := Lib.hid (fun W => ris11_no n W h3)
      clear h3
      unfold opV11
      go_enter Try.func3, Try.ntmps3
      go_wp2_with fail
      refine (nw.out _).mono ?_
      rintro e w' ⟨rfl, rfl⟩
      go_wp2_with fail
      refine (is.out _).mono ?_
      rintro e w' ⟨rfl, rfl⟩
      go_wp2_with fail
      refine (al.out _).mono ?_
      rintro e w3 ⟨rfl, hb3⟩
      go_wp2
      go_ret
      exact ⟨rfl, below_on (below_al _ _) hb3⟩
    · obtain ⟨C, rfl⟩ := Int.eq_ofNat_of_zero_le (show 0 ≤ n by omega)
      exact gatePlays_main C v R K x w (by omega) (by omega) hR (by omega)

#print axioms gatePlays_any
end Go.Proofs.Ytaimhaokielhgaa
