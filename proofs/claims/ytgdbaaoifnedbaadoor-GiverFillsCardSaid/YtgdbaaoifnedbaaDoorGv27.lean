/-
  Layer 16 (giver): the memory of the law GiverFills, and its walk.
  Conditions: those that each theorem states.
-/
import Derived.Test.YtgdbaaoifnedbaaDoorGv26
import Derived.Test.YtgdbaaoifnedbaaDoorRPl2
import Derived.Deep.RegionHeld3
namespace Go.Proofs.YtgdbaaoifnedbaaDoor
open Go.ChangeShapes Go.WideShapes Go.ChangeAt Go.RowKit

theorem nth_at16 {R : Nat} (hR : okRing (R : Int)) {V : List Int} (hV : V.length = 4 + 11 * R) {f s i : Int} (h : okWord (R : Int) f s i) {f' s' i' : Int} (h' : okWord (R : Int) f' s' i') (y : Int) :
    nth14 (put14 V (atV13 0 (R : Int) f s i) y) (atV13 0 (R : Int) f' s' i') = if f' = f ∧ s' = s ∧ i' = i then y else nth14 V (atV13 0 (R : Int) f' s' i') := by
  have e1 : ∀ {f s i : Int}, okWord (R : Int) f s i → atV13 0 (R : Int) f s i = 0 + offP (R : Int) f s i := fun h => by unfold atV13; rw [if_pos h]
  rw [nth14_put, e1 h, e1 h']
  have hb := off_bd hR h
  have hin : in14 V (0 + offP (R : Int) f s i) = true := by
    simp [in14, hV]
    omega
  by_cases e : f' = f ∧ s' = s ∧ i' = i
  · obtain ⟨rfl, rfl, rfl⟩ := e
    rw [if_pos ⟨rfl, hin⟩, if_pos ⟨rfl, rfl, rfl⟩]
  · rw [if_neg (fun k => e (off_inj hR h' h (by omega))), if_neg e]
theorem at16_4 (R : Nat) : atV13 0 (R : Int) 4 0 0 = 3 := li_ad (li0 R) rfl 4 (by omega)
theorem w16_6 {R i : Nat} (h : i < R) : okWord (R : Int) 6 (i : Int) 0 := .inr (.inl ⟨by omega, by omega, by omega, by omega, rfl⟩)

/-- The words while the returned slots are laid: the first i of them. -/
structure Ret16 (R i : Nat) (V : List Int) : Prop where
  len : V.length = 4 + 11 * R
  ui : nth14 V 3 = 0
  used : ∀ j : Nat, j < i → nth14 V (atV13 0 (R : Int) 6 (j : Int) 0) = (j : Int)
theorem Ret16.put {R i : Nat} {V : List Int} (h : Ret16 R i V) (hR : okRing (R : Int)) (hi : i < R) : Ret16 R (i + 1) (put14 V (atV13 0 (R : Int) 6 (i : Int) 0) (i : Int)) := by
  refine ⟨by rw [put14_len]; exact h.len, ?_, fun j hj => ?_⟩
  · have := nth_at16 hR h.len (w16_6 hi) (w_ok (R := (R : Int)) 4 (by omega)) (i : Int)
    rw [at16_4, if_neg (by omega)] at this
    rw [this]
    exact h.ui
  · rw [nth_at16 hR h.len (w16_6 hi) (w16_6 (by omega))]
    by_cases e : j = i
    · rw [if_pos ⟨rfl, by omega, rfl⟩, e]
    · rw [if_neg (by omega)]
      exact h.used j (by omega)
theorem Ret16.done {R m : Nat} {V : List Int} (h : Ret16 R m V) (hR : okRing (R : Int)) (hm : m ≤ R) : (put14 V 3 (m : Int)).length = 4 + 11 * R ∧ nth14 (put14 V 3 (m : Int)) 3 = (m : Int) ∧ ∀ j : Nat, j < m → nth14 (put14 V 3 (m : Int)) (atV13 0 (R : Int) 6 (j : Int) 0) = (j : Int) := by
  have h4 := w_ok (R := (R : Int)) 4 (by omega)
  refine ⟨by rw [put14_len]; exact h.len, ?_, fun j hj => ?_⟩
  · have := nth_at16 hR h.len h4 h4 (m : Int)
    rw [at16_4, if_pos ⟨rfl, rfl, rfl⟩] at this
    exact this
  · have := nth_at16 hR h.len h4 (w16_6 (R := R) (i := j) (by omega)) (m : Int)
    rw [at16_4, if_neg (by omega)] at this
    rw [this]
    exact h.used j hj

/-- The giver and the port, all behind w. -/
structure Lf16 (w wr : World) (g p : Nat) (G : Gv) (V E K : List Int) : Prop where
  sys : SysP16 wr (fun x => w.heap.size ≤ x) g p G V E K
  below : Below w.heap.size w wr

section
variable {w wr w1 : World} {g p : Nat} {G : Gv} {V E K : List Int}

theorem Lf16.quiet (L : Lf16 w wr g p G V E K) (hb : Below wr.heap.size wr w1) : Lf16 w w1 g p G V E K := ⟨L.sys.below hb, below_on L.below hb⟩
theorem Lf16.only (L : Lf16 w wr g p G V E K) {G' : Gv} {V' E' K' : List Int} (ho : Only (fun x => w.heap.size ≤ x) wr w1) (hs : SysP16 w1 (fun x => w.heap.size ≤ x ∨ wr.heap.size ≤ x) g p G' V' E' K') : Lf16 w w1 g p G' V' E' K' := by
  have hsz := L.below.size
  exact ⟨hs.weak (fun x _ h => by rcases h with h | h <;> omega), Only.below L.below ho hsz (fun x hx h => by omega)⟩
theorem Lf16.tab (L : Lf16 w wr g p G V E K) (hT : TabAt w) : ∀ w2, Only (fun x => w.heap.size ≤ x) wr w2 → TabAt w2 := fun w2 ho => by
  have h1 := hT.below L.below
  have hl := hT.lt
  exact h1.only ho (fun h => by omega)
theorem Lf16.send (L : Lf16 w wr g p G V E K) {l : List Int} {v : Value} (hv : Lies w (fun _ => True) v (ints l)) (hcap : CapOk v) :
    Calls Tryd.prog 17 #[.pointer (some ⟨g, 0, none⟩), v] wr fun e w' => e = .returned (.int .i64 (sendE16 G l)) ∧ Lf16 w w' g p (sendG16 G l) V E K :=
  (sendP16 (fun _ => True) l v wr L.sys (hv.below L.below) hcap).mono fun _ _ ⟨he, hs, ho⟩ => ⟨he, L.only ho hs⟩
theorem Lf16.run (L : Lf16 w wr g p G V E K) (hT : TabAt w) {e : Int} {G' : Gv} {V' K' : List Int} (h : Over16 E ⟨G, V, K, []⟩ e G' V' K') (hp : pot16 G ≤ 100) (hk : K.length ≤ 60000) :
    Calls Tryd.prog 33 #[.pointer (some ⟨g, 0, none⟩), face14 p] wr fun r w' => r = .returned (.int .i64 e) ∧ Lf16 w w' g p G' V' E K' := by
  obtain ⟨n, he, hn, hG, hV, hK⟩ := h
  refine (run16_any ⟨G, V, K, []⟩ n e wr L.sys he (by have : n < pot16 G := hn; omega) hk (L.tab hT)).mono fun _ _ ⟨hr, hs, ho⟩ => ⟨hr, ?_⟩
  rw [hG, hV, hK] at hs
  exact L.only ho hs
theorem Lf16.store (L : Lf16 w wr g p G V E K) (i x : Int) :
    Calls Tryd.prog 35 #[.pointer (some ⟨p, 0, none⟩), .int .i64 i, .int .i64 x] wr fun e w' => e = .returned (.tuple #[]) ∧ Lf16 w w' g p G (put14 V i (x % 65536)) E K := by
  obtain ⟨vf, vo, vl, a, b, k, r, rp, hd, h1, h2⟩ := L.sys
  refine (store14_any i x wr rp).mono fun _ w' ⟨he, rp', ho⟩ => ⟨he, L.only (ho.mono fun x hx h => ?_) ⟨vf, vo, vl, a, b, k, r.only ho (fun y hy h => ?_), rp', hd, fun y hy => .inl (h1 y hy), fun y hy => .inl (h2 y hy)⟩⟩
  · subst h
    exact h2 _ (.inl (by unfold own14p; simp))
  · subst h
    exact hd _ hy (.inl (by unfold own14p; simp))
theorem Lf16.free (L : Lf16 w wr g p G V E K) (hl : G.free.length ≤ 65536) : Calls Tryd.prog 29 #[.pointer (some ⟨g, 0, none⟩)] wr fun e w' => ∃ A c, e = .returned (.slice A G.free.length c) ∧ Below wr.heap.size wr w' := by
  obtain ⟨vf, vo, vl, a, b, k, r, -⟩ := L.sys
  refine (free16_any wr r hl).mono fun _ w' ⟨v', he, ho, hb⟩ => ?_
  obtain ⟨A, c, rfl⟩ := own_open14 ho
  exact ⟨A, c, he, hb⟩
theorem Lf16.kicks (L : Lf16 w wr g p G V E K) (hl : K.length ≤ 65536) : Calls Tryd.prog 36 #[.pointer (some ⟨p, 0, none⟩)] wr fun e w' => ∃ A c, e = .returned (.slice A K.length c) ∧ Below wr.heap.size wr w' := by
  obtain ⟨vf, vo, vl, a, b, k, r, rp, -⟩ := L.sys
  refine (kicks14_any wr rp hl).mono fun _ w' ⟨v', he, ho, hb⟩ => ?_
  obtain ⟨A, c, rfl⟩ := own_open14 ho
  exact ⟨A, c, he, hb⟩
end

/-- What is known between two calls of the first loop, and of the second. -/
structure Pa16 (R a : Nat) (V : List Int) : Prop where
  ok : Ok16 (fl16 R a)
  len : V.length = 4 + 11 * R
  ce : nth14 V 1 = 0
  ui : nth14 V 3 = 0
structure Pc16 (R m a : Nat) (V : List Int) : Prop where
  ok : Ok16 (fi16 R m a)
  len : V.length = 4 + 11 * R
  ui : nth14 V 3 = (m : Int)
  used : a = 0 → ∀ j : Nat, j < m → nth14 V (atV13 0 (R : Int) 6 (j : Int) 0) = (j : Int)

theorem Pa16.next {R a : Nat} {V K l : List Int} (P : Pa16 R a V) (h16 : R ≤ 16) (ha : a < R) (hs : sendE16 (li0 R) l = 0) : ∃ V', Over16 [0, 0, 0] ⟨sendG16 (fl16 R a) l, V, K, []⟩ 0 (fl16 R (a + 1)) V' (K ++ [1]) ∧ Pa16 R (a + 1) V' := by
  obtain ⟨V', ov, h1, h2, h3⟩ := fl_call (K := K) h16 ha hs P.ok P.len P.ce P.ui
  exact ⟨V', ov, ov.ok (ok16_send P.ok l), h1, h2, h3⟩
theorem Pc16.next {R m a : Nat} {V K l : List Int} (P : Pc16 R m a V) (hR : okRing (R : Int)) (h16 : R ≤ 16) (hm : m ≤ R) (ha : a < m) (hs : sendE16 (li0 R) l = 0) : ∃ V', Over16 [0, 0, 0] ⟨sendG16 (fi16 R m a) l, V, K, []⟩ 0 (fi16 R m (a + 1)) V' (K ++ [1]) ∧ Pc16 R m (a + 1) V' := by
  obtain ⟨V', ov, h1, h2⟩ := fi_call (K := K) hR h16 hm ha hs P.ok P.len P.ui P.used
  exact ⟨V', ov, ov.ok (ok16_send P.ok l), h1, h2, fun h => by omega⟩
theorem pot16_fl {R a : Nat} {l : List Int} (ho : Ok16 (fl16 R a)) (h16 : R ≤ 16) (hs : sendE16 (li0 R) l = 0) : sendE16 (fl16 R a) l = 0 ∧ pot16 (sendG16 (fl16 R a) l) ≤ 100 := by
  have hs1 : sendE16 (fl16 R a) l = 0 := by rw [sendE16_idle (G' := li0 R) rfl rfl]; exact hs
  have h := (pot16_send ho hs1).1
  have : (fl16 R a).R = R := rfl
  exact ⟨hs1, by omega⟩
theorem pot16_fi {R m a : Nat} {l : List Int} (ho : Ok16 (fi16 R m a)) (h16 : R ≤ 16) (hs : sendE16 (li0 R) l = 0) : sendE16 (fi16 R m a) l = 0 ∧ pot16 (sendG16 (fi16 R m a) l) ≤ 100 := by
  have hs1 : sendE16 (fi16 R m a) l = 0 := by rw [sendE16_idle (G' := li0 R) (fi16_st R m a) rfl]; exact hs
  have h := (pot16_send ho hs1).1
  have : (fi16 R m a).R = R := by unfold fi16; split <;> rfl
  exact ⟨hs1, by omega⟩

set_option maxRecDepth 100000 in
set_option maxHeartbeats 8000000 in
theorem fills16_yes (R : Nat) (v : Value) (l : List Int) (z : Int) (w : World) (hR : okRing (R : Int)) (h16 : R ≤ 16) (hT : TabAt w) (hv : Lies w (fun _ => True) v (ints l)) (hcap : CapOk v) (hz0 : 0 ≤ z ∧ z ≤ 255) (hs : sendE16 (li0 R) l = 0) :
    Calls Tryd.prog 4 #[.int .i64 (R : Int), v, .int .u8 z] w fun e w' => e = .returned (.bool true) ∧ Below w.heap.size w w' := by
  have HV := Lib.hid hv
  obtain ⟨A, n, c, rfl, HN, -⟩ := lies_open hv
  have n16 : decide ((16 : Int) < (R : Int)) = false := by simp; omega
  have KR := Lib.hid (fun W => rring13_any (R : Int) W)
  have e0 : decide (okRing (R : Int)) = true := decide_eq_true hR
  rw [e0] at KR
  have HT := Lib.hid hT
  have KM := Lib.hid (fun W => made16_yes (B := 0) (r := R) (self := 2) (peer := 1) (own := 0) ⟨hR, by omega, by omega, by omega, by omega, by omega⟩ W)
  unfold baseV at KM
  have hbd := hR.bd
  obtain ⟨N, hN⟩ : ∃ N, 4 + 11 * R = N := ⟨_, rfl⟩
  have hN2 : N ≤ 2000 := by omega
  have KZ := Lib.hid (fun W => size13_any (R : Int) W)
  have ez : sizeP (R : Int) = (N : Int) := by unfold sizeP; rw [if_pos hR]; omega
  rw [ez] at KZ
  have hmk : ∀ W : World, (Instr.makeSlice 33 (.int .i64 (N : Int)) (.int .i64 (N : Int))).run Tryd.prog W = .ok (.slice (some ⟨W.heap.size, 0, none⟩) N N) (W.alloc (.cells (madeCells #[.int .i64 0] N) 3)) := fun W => run_make_row' (P := Tryd.prog) 33 3 (.int .i64 0) 8 Tryd.underlying33 int_info rfl .i64 .i64 N (by omega) (by omega) W
  have hR2 : 2 ≤ R ∧ R ≤ 16 := by omega
  have HR := Lib.hid hR
  have HC := Lib.hid hcap
  have HS := Lib.hid hs
  obtain ⟨R1, hR1⟩ : ∃ R1, R + 1 = R1 := ⟨_, rfl⟩
  have d1 : (R : Int) + 1 = (R1 : Int) := by omega
  have d2 : IntKind.i64.wrap (R1 : Int) = (R1 : Int) := IntWalk.i64_in _ (by omega)
  obtain ⟨m, HZ⟩ : ∃ m : Nat, Hid (z.tmod (R1 : Int) = (m : Int) ∧ z % (R1 : Int) = (m : Int) ∧ m ≤ R) := by
    have m1 := Int.emod_nonneg z (show (R1 : Int) ≠ 0 by omega)
    have m2 := Int.emod_lt_of_pos z (show (0 : Int) < (R1 : Int) by omega)
    refine ⟨(z % (R1 : Int)).toNat, Lib.hid ⟨?_, ?_, ?_⟩⟩
    · rw [Int.tmod_eq_emod_of_nonneg hz0.1]; exact (Int.toNat_of_nonneg m1).symm
    · exact (Int.toNat_of_nonneg m1).symm
    · generalize z % (R1 : Int) = y at *; omega
  have hmR : m ≤ R := HZ.out.2.2
  have dz : IntKind.i64.wrap z = z := IntWalk.i64_in _ (by omega)
  have dm : IntKind.i64.wrap (m : Int) = (m : Int) := IntWalk.i64_in _ (by omega)
  have PA0 : Hid (Pa16 R 0 (List.replicate N 0)) := Lib.hid (by
    have hz : ∀ i : Int, nth14 (List.replicate N 0) i = 0 := fun i => by
      unfold nth14
      split
      · simp [List.getD, List.getElem?_replicate]
        split <;> rfl
      · rfl
    exact ⟨li0_ok hR, by rw [List.length_replicate]; omega, hz _, hz _⟩)
  clear hv hT hR hcap e0 ez hs hbd 
  go_enter Tryd.func4, Tryd.ntmps4
  go_wp2_with (go_at_call 31; refine (KR.out _).mono ?_; rintro e w' ⟨rfl, rfl⟩)
  refine (KM.out _).mono ?_
  rintro e w1 ⟨g, rfl, s1, b1⟩
  have S1 := Lib.hid s1
  have B1 := Lib.hid b1
  clear s1 b1 KM KR
  unfold ptr
  go_wp2_with fail
  refine (KZ.out _).mono ?_
  rintro e w' ⟨rfl, rfl⟩
  go_wp2_with fail
  have hz := Row.new w1 3 (madeCells #[Value.int .i64 0] N)
  rw [ints_zeros] at hz
  have hz2 := hz.below (below_al (w1.alloc (.cells (madeCells #[Value.int .i64 0] N) 3)) (.cells #[.int .i64 0, .int .i64 0, .int .i64 0] 3))
  have he2 := Row.new (w1.alloc (.cells (madeCells #[Value.int .i64 0] N) 3)) 3 #[.int .i64 0, .int .i64 0, .int .i64 0]
  rw [size_al] at he2
  have hb3 := below_on (below_al w1 (.cells (madeCells #[Value.int .i64 0] N) 3)) (below_al (w1.alloc (.cells (madeCells #[Value.int .i64 0] N) 3)) (.cells #[.int .i64 0, .int .i64 0, .int .i64 0] 3))
  have hlz := Lies.of_row (P := fun _ => True) hz2 trivial N
  rw [show (ints (List.replicate N (0 : Int))).length = N by simp [ints]] at hlz
  refine (ofWords14_any (fun _ => True) (fun _ => True) (List.replicate N 0) [0, 0, 0] _ _ _ hlz (Lies.of_row he2 trivial 3) (by simp; omega) (by simp)).mono ?_
  rintro e w4 ⟨p, a, b, rfl, rp, ha, hp, hb4⟩
  have e1 : mod14 (List.replicate N 0) = List.replicate N 0 := by simp [mod14]
  rw [e1, show mod14 [0, 0, 0] = [0, 0, 0] by decide] at rp
  have L4 : Hid (Lf16 w w4 g p (li0 R) (List.replicate N 0) [0, 0, 0] []) := Lib.hid (by
    have hab := rp.ne
    have hs3 := hb3.size
    have hsw := B1.out.size
    have hsys := sysP16_of S1.out (below_on hb3 hb4) rp (fun x hx => by
      rcases hx with hx | rfl
      · rcases hx with rfl | rfl | hx
        · omega
        · omega
        · cases hx
      · omega)
    refine ⟨hsys.weak (fun x _ h => ?_), below_on (below_on B1.out hb3) hb4⟩
    rcases h with h | h
    · exact h
    · omega)
  clear hlz hz hz2 he2 hb3 hb4 rp ha hp e1 hmk S1 B1 KZ
  unfold ptr
  go_wp2
  go_loopw [9] (fun iv wr => ∃ i a : Nat, i ≤ R + 1 ∧ a = min i R ∧ iv = .int .i64 i ∧ ∃ V, Hid (Lf16 w wr g p (fl16 R a) V [0, 0, 0] (List.replicate a 1)) ∧ Hid (Pa16 R a V)) (fun iv _ => R + 2 - (intOf iv).toNat)
  case atStart => exact ⟨0, 0, by omega, by omega, rfl, _, L4, PA0⟩
  case round =>
    clear L4 PA0
    obtain ⟨i, a, hi, ha, rfl, V, L, P⟩ := hrel
    by_cases hle : i ≤ R
    · have hid : decide ((i : Int) ≤ (R : Int)) = true := by simp; omega
      have hpf := pot16_fl P.out.ok hR2.2 HS.out
      have KS := Lib.hid (L.out.send HV.out HC.out)
      rw [hpf.1] at KS
      have HP := Lib.hid hpf.2
      clear hpf
      by_cases hlt : i < R
      · have hid2 : decide ((i : Int) < (R : Int)) = true := by simp; omega
        obtain rfl : i = a := by omega
        clear ha
        obtain ⟨V', ov, P'⟩ := P.out.next (K := List.replicate i 1) hR2.2 hlt HS.out
        have hke : List.replicate i (1 : Int) ++ [1] = List.replicate (i + 1) 1 := (List.replicate_succ' ..).symm
        rw [hke] at ov
        have OV := Lib.hid ov
        have PP := Lib.hid P'
        clear ov P' hke
        go_wp2_with fail
        refine KS.out.mono ?_
        rintro e w5 ⟨rfl, L5⟩
        have K6 := Lib.hid (L5.run HT.out OV.out HP.out (by simp; omega))
        unfold face14 at K6
        clear L5 KS L P OV HP
        go_wp2_with fail
        refine K6.out.mono ?_
        rintro e w6 ⟨rfl, L6⟩
        have L6H := Lib.hid L6
        clear L6 K6
        go_wp2
        go_roundw
        case rel => exact ⟨i + 1, i + 1, by omega, by omega, by go_num, V', L6H, PP⟩
        case measure => first | (simp [intOf]; omega) | simp [intOf]
      · obtain rfl : a = R := by omega
        obtain rfl : i = a := by omega
        clear ha
        have hid2 : decide ((i : Int) < (i : Int)) = false := by simp
        have OV := Lib.hid (fl_full (K := List.replicate i 1) HR.out HS.out P.out.ok P.out.ui)
        go_wp2_with fail
        refine KS.out.mono ?_
        rintro e w5 ⟨rfl, L5⟩
        have K6 := Lib.hid (L5.run HT.out OV.out HP.out (by simp; omega))
        unfold face14 at K6
        clear L5 KS L OV HP
        go_wp2_with fail
        refine K6.out.mono ?_
        rintro e w6 ⟨rfl, L6⟩
        have L6H := Lib.hid L6
        clear L6 K6
        go_wp2
        go_roundw
        case rel => exact ⟨i + 1, i, by omega, by omega, by go_num, V, L6H, P⟩
        case measure => first | (simp [intOf]; omega) | simp [intOf]
    · obtain rfl : a = R := by omega
      clear ha
      have hid : decide ((i : Int) ≤ (a : Int)) = false := by simp; omega
      have hz1 := HZ.out.1
      have hz2 := HZ.out.2.1
      have hR10 : ((R1 : Int) == 0) = false := by simp; omega
      go_wp2
      clear hz1 hz2
      have T0 : Hid (Ret16 a 0 V) := Lib.hid ⟨P.out.len, P.out.ui, fun j hj => by omega⟩
      have OKL := Lib.hid P.out.ok
      clear P hi hle hid
      go_loopw [13] (fun iv wr => ∃ i : Nat, i ≤ m ∧ iv = .int .i64 i ∧ ∃ V, Hid (Lf16 w wr g p (fl16 a a) V [0, 0, 0] (List.replicate a 1)) ∧ Hid (Ret16 a i V)) (fun iv _ => m + 1 - (intOf iv).toNat)
      case atStart => exact ⟨0, Nat.zero_le _, rfl, V, L, T0⟩
      case round =>
        clear L T0
        obtain ⟨i, hi, rfl, V, L, T⟩ := hrel
        by_cases hlt : i < m
        · have hid : decide ((i : Int) < (m : Int)) = true := by simp; omega
          have KA := Lib.hid (fun W => rat13_any 0 (a : Int) 6 (i : Int) 0 (by omega) (by omega) W)
          go_wp2_with fail
          refine (KA.out _).mono ?_
          rintro e w' ⟨rfl, rfl⟩
          have KL := Lib.hid (L.out.store (atV13 0 (a : Int) 6 (i : Int) 0) (i : Int))
          rw [show (i : Int) % 65536 = (i : Int) from Int.emod_eq_of_lt (by omega) (by omega)] at KL
          have TT := Lib.hid (T.out.put HR.out (by omega))
          clear KA L T
          go_wp2_with fail
          refine KL.out.mono ?_
          rintro e w6 ⟨rfl, L6⟩
          have L6H := Lib.hid L6
          clear L6 KL
          go_wp2
          go_roundw
          case rel => exact ⟨i + 1, by omega, by go_num, _, L6H, TT⟩
          case measure => first | (simp [intOf]; omega) | simp [intOf]
        · obtain rfl : m = i := by omega
          have hid : decide ((m : Int) < (m : Int)) = false := by simp
          have KA := Lib.hid (fun W => rat13_any 0 (a : Int) 4 0 0 (by omega) (by omega) W)
          rw [at16_4] at KA
          go_wp2_with fail
          refine (KA.out _).mono ?_
          rintro e w' ⟨rfl, rfl⟩
          have KL := Lib.hid (L.out.store 3 (m : Int))
          rw [show (m : Int) % 65536 = (m : Int) from Int.emod_eq_of_lt (by omega) (by omega)] at KL
          have PC0 : Hid (Pc16 a m 0 (put14 V 3 (m : Int))) := Lib.hid (by
            have h := T.out.done HR.out hmR
            exact ⟨OKL.out, h.1, h.2.1, fun _ => h.2.2⟩)
          clear KA L T
          go_wp2_with fail
          refine KL.out.mono ?_
          rintro e w6 ⟨rfl, L6⟩
          have L6H : Hid (Lf16 w w6 g p (fi16 a m 0) (put14 V 3 (m : Int)) [0, 0, 0] (List.replicate (a + 0) 1)) := Lib.hid L6
          clear L6 KL hid hi hlt
          generalize put14 V 3 (m : Int) = V1 at *
          go_wp2
          go_loopw [18] (fun iv wr => ∃ i b : Nat, i ≤ m + 1 ∧ b = min i m ∧ iv = .int .i64 i ∧ ∃ V, Hid (Lf16 w wr g p (fi16 a m b) V [0, 0, 0] (List.replicate (a + b) 1)) ∧ Hid (Pc16 a m b V)) (fun iv _ => m + 2 - (intOf iv).toNat)
          case atStart => exact ⟨0, 0, by omega, by omega, rfl, V1, L6H, PC0⟩
          case round =>
            clear L6H PC0
            obtain ⟨i, b, hi, hb, rfl, V, L, P⟩ := hrel
            by_cases hle : i ≤ m
            · have hid : decide ((i : Int) ≤ (m : Int)) = true := by simp; omega
              have hpf := pot16_fi P.out.ok hR2.2 HS.out
              have KS := Lib.hid (L.out.send HV.out HC.out)
              rw [hpf.1] at KS
              have HP := Lib.hid hpf.2
              clear hpf
              by_cases hlt : i < m
              · have hid2 : decide ((i : Int) < (m : Int)) = true := by simp; omega
                obtain rfl : i = b := by omega
                clear hb
                obtain ⟨V', ov, P'⟩ := P.out.next (K := List.replicate (a + i) 1) HR.out hR2.2 hmR hlt HS.out
                have hke : List.replicate (a + i) (1 : Int) ++ [1] = List.replicate (a + (i + 1)) 1 := (List.replicate_succ' ..).symm
                rw [hke] at ov
                have OV := Lib.hid ov
                have PP := Lib.hid P'
                clear ov P' hke
                go_wp2_with fail
                refine KS.out.mono ?_
                rintro e w7 ⟨rfl, L7⟩
                have K8 := Lib.hid (L7.run HT.out OV.out HP.out (by simp; omega))
                unfold face14 at K8
                clear L7 KS L P OV HP
                go_wp2_with fail
                refine K8.out.mono ?_
                rintro e w8 ⟨rfl, L8⟩
                have L8H := Lib.hid L8
                clear L8 K8
                go_wp2
                go_roundw
                case rel => exact ⟨i + 1, i + 1, by omega, by omega, by go_num, V', L8H, PP⟩
                case measure => first | (simp [intOf]; omega) | simp [intOf]
              · obtain rfl : b = m := by omega
                obtain rfl : i = b := by omega
                clear hb
                have hid2 : decide ((i : Int) < (i : Int)) = false := by simp
                have OV := Lib.hid (fi_full (K := List.replicate (a + i) 1) HR.out HS.out P.out.ok P.out.ui)
                go_wp2_with fail
                refine KS.out.mono ?_
                rintro e w7 ⟨rfl, L7⟩
                have K8 := Lib.hid (L7.run HT.out OV.out HP.out (by simp; omega))
                unfold face14 at K8
                clear L7 KS L OV HP
                go_wp2_with fail
                refine K8.out.mono ?_
                rintro e w8 ⟨rfl, L8⟩
                have L8H := Lib.hid L8
                clear L8 K8
                go_wp2
                go_roundw
                case rel => exact ⟨i + 1, i, by omega, by omega, by go_num, V, L8H, P⟩
                case measure => first | (simp [intOf]; omega) | simp [intOf]
            · obtain rfl : b = m := by omega
              clear hb
              have hid : decide ((i : Int) ≤ (b : Int)) = false := decide_eq_false (by omega)
              have KF := Lib.hid (L.out.free (by rw [fi16_free]; exact Nat.zero_le _))
              rw [show (fi16 a b b).free.length = 0 by rw [fi16_free]; rfl] at KF
              obtain ⟨M, hM⟩ : ∃ M, a + b = M := ⟨_, rfl⟩
              have d6 : (a : Int) + (b : Int) = (M : Int) := by omega
              have d7 : IntKind.i64.wrap (M : Int) = (M : Int) := IntWalk.i64_in _ (by omega)
              have hMM : ((M : Int) == (M : Int)) = true := by simp
              rw [hM] at L
              clear P
              go_wp2_with fail
              refine KF.out.mono ?_
              rintro e w9 ⟨A9, c9, rfl, b9⟩
              have L9 := Lib.hid (L.out.quiet b9)
              have KK := Lib.hid (L9.out.kicks (by simp; omega))
              rw [List.length_replicate] at KK
              clear b9 KF L
              go_wp2_with fail
              refine KK.out.mono ?_
              rintro e w10 ⟨A10, c10, rfl, b10⟩
              have L10 := Lib.hid (L9.out.quiet b10)
              have KZ2 := Lib.hid (alive16 w10 (HT.out.below L10.out.below))
              clear b10 KK L9
              go_wp2_with fail
              refine KZ2.out.mono ?_
              rintro e w11 ⟨rfl, b11⟩
              have B11 := Lib.hid (below_on L10.out.below b11)
              clear b11
              go_wp2
              go_ret
              exact ⟨rfl, B11.out⟩

set_option maxRecDepth 100000 in
set_option maxHeartbeats 8000000 in
theorem fills16_bad (R : Nat) (v : Value) (l : List Int) (z : Int) (w : World) (hR : okRing (R : Int)) (h16 : R ≤ 16) (hT : TabAt w) (hv : Lies w (fun _ => True) v (ints l)) (hcap : CapOk v) (hs : sendE16 (li0 R) l ≠ 0) :
    Calls Tryd.prog 4 #[.int .i64 (R : Int), v, .int .u8 z] w fun e w' => e = .returned (.bool true) ∧ Below w.heap.size w w' := by
  have HV := Lib.hid hv
  obtain ⟨A, n, c, rfl, HN, -⟩ := lies_open hv
  have n16 : decide ((16 : Int) < (R : Int)) = false := by simp; omega
  have KR := Lib.hid (fun W => rring13_any (R : Int) W)
  have e0 : decide (okRing (R : Int)) = true := decide_eq_true hR
  rw [e0] at KR
  have HT := Lib.hid hT
  have KM := Lib.hid (fun W => made16_yes (B := 0) (r := R) (self := 2) (peer := 1) (own := 0) ⟨hR, by omega, by omega, by omega, by omega, by omega⟩ W)
  unfold baseV at KM
  have hbd := hR.bd
  obtain ⟨N, hN⟩ : ∃ N, 4 + 11 * R = N := ⟨_, rfl⟩
  have hN2 : N ≤ 2000 := by omega
  have KZ := Lib.hid (fun W => size13_any (R : Int) W)
  have ez : sizeP (R : Int) = (N : Int) := by unfold sizeP; rw [if_pos hR]; omega
  rw [ez] at KZ
  have hmk : ∀ W : World, (Instr.makeSlice 33 (.int .i64 (N : Int)) (.int .i64 (N : Int))).run Tryd.prog W = .ok (.slice (some ⟨W.heap.size, 0, none⟩) N N) (W.alloc (.cells (madeCells #[.int .i64 0] N) 3)) := fun W => run_make_row' (P := Tryd.prog) 33 3 (.int .i64 0) 8 Tryd.underlying33 int_info rfl .i64 .i64 N (by omega) (by omega) W
  have hR2 : 2 ≤ R ∧ R ≤ 16 := by omega
  have HR := Lib.hid hR
  have HC := Lib.hid hcap
  have HS := Lib.hid hs
  clear hv hT hR hcap e0 ez hs hbd 
  go_enter Tryd.func4, Tryd.ntmps4
  go_wp2_with (go_at_call 31; refine (KR.out _).mono ?_; rintro e w' ⟨rfl, rfl⟩)
  refine (KM.out _).mono ?_
  rintro e w1 ⟨g, rfl, s1, b1⟩
  have S1 := Lib.hid s1
  have B1 := Lib.hid b1
  clear s1 b1 KM KR
  unfold ptr
  go_wp2_with fail
  refine (KZ.out _).mono ?_
  rintro e w' ⟨rfl, rfl⟩
  go_wp2_with fail
  have hz := Row.new w1 3 (madeCells #[Value.int .i64 0] N)
  rw [ints_zeros] at hz
  have hz2 := hz.below (below_al (w1.alloc (.cells (madeCells #[Value.int .i64 0] N) 3)) (.cells #[.int .i64 0, .int .i64 0, .int .i64 0] 3))
  have he2 := Row.new (w1.alloc (.cells (madeCells #[Value.int .i64 0] N) 3)) 3 #[.int .i64 0, .int .i64 0, .int .i64 0]
  rw [size_al] at he2
  have hb3 := below_on (below_al w1 (.cells (madeCells #[Value.int .i64 0] N) 3)) (below_al (w1.alloc (.cells (madeCells #[Value.int .i64 0] N) 3)) (.cells #[.int .i64 0, .int .i64 0, .int .i64 0] 3))
  have hlz := Lies.of_row (P := fun _ => True) hz2 trivial N
  rw [show (ints (List.replicate N (0 : Int))).length = N by simp [ints]] at hlz
  refine (ofWords14_any (fun _ => True) (fun _ => True) (List.replicate N 0) [0, 0, 0] _ _ _ hlz (Lies.of_row he2 trivial 3) (by simp; omega) (by simp)).mono ?_
  rintro e w4 ⟨p, a, b, rfl, rp, ha, hp, hb4⟩
  have e1 : mod14 (List.replicate N 0) = List.replicate N 0 := by simp [mod14]
  rw [e1, show mod14 [0, 0, 0] = [0, 0, 0] by decide] at rp
  have L4 : Hid (Lf16 w w4 g p (li0 R) (List.replicate N 0) [0, 0, 0] []) := Lib.hid (by
    have hab := rp.ne
    have hs3 := hb3.size
    have hsw := B1.out.size
    have hsys := sysP16_of S1.out (below_on hb3 hb4) rp (fun x hx => by
      rcases hx with hx | rfl
      · rcases hx with rfl | rfl | hx
        · omega
        · omega
        · cases hx
      · omega)
    refine ⟨hsys.weak (fun x _ h => ?_), below_on (below_on B1.out hb3) hb4⟩
    rcases h with h | h
    · exact h
    · omega)
  clear hlz hz hz2 he2 hb3 hb4 rp ha hp e1 hmk S1 B1 KZ
  unfold ptr
  go_wp2
  go_loopw [9] (fun iv wr => iv = .int .i64 0 ∧ w4 = wr) (fun _ _ => 0)
  case atStart => exact ⟨rfl, rfl⟩
  case round =>
    obtain ⟨rfl, rfl⟩ := hrel
    have hid : decide ((0 : Int) ≤ (R : Int)) = true := decide_eq_true (by omega)
    have KS := Lib.hid (L4.out.send HV.out HC.out)
    have hb : sendE16 (li0 R) l ≠ 0 := HS.out
    have hG : sendG16 (li0 R) l = li0 R := by unfold sendG16; rw [if_neg hb]
    have hN := HN.out
    have hE : sendE16 (li0 R) l = if 8 < n then 18 else 2 := by
      unfold sendE16 at hb ⊢
      rw [if_neg (show ¬ (li0 R).st ≠ 0 from fun h => h rfl)] at hb ⊢
      rw [hN] at hb ⊢
      split
      · rfl
      · rename_i h8
        rw [if_neg h8] at hb
        by_cases ho : l.all okW = true
        · rw [if_pos ho] at hb; exact absurd rfl hb
        · rw [if_neg ho]
    rw [hG, hE] at KS
    clear hb hG hE hN HS
    by_cases h8 : 8 < n
    · rw [if_pos h8] at KS
      have f1 : decide ((8 : Int) < (n : Int)) = true := by simp; omega
      go_wp2_with fail
      refine KS.out.mono ?_
      rintro e w5 ⟨rfl, L5⟩
      have L5H := Lib.hid L5
      have KZ2 := Lib.hid (alive16 w5 (HT.out.below L5.below))
      clear L5 KS
      go_wp2_with fail
      refine KZ2.out.mono ?_
      rintro e w6 ⟨rfl, b6⟩
      have B6 := Lib.hid (below_on L5H.out.below b6)
      clear b6
      go_wp2
      go_ret
      exact ⟨rfl, B6.out⟩
    · rw [if_neg h8] at KS
      have f1 : decide ((8 : Int) < (n : Int)) = false := by simp; omega
      have f2 : decide ((n : Int) ≤ 8) = true := by simp; omega
      go_wp2_with fail
      refine KS.out.mono ?_
      rintro e w5 ⟨rfl, L5⟩
      have L5H := Lib.hid L5
      have KZ2 := Lib.hid (alive16 w5 (HT.out.below L5.below))
      clear L5 KS
      go_wp2_with fail
      refine KZ2.out.mono ?_
      rintro e w6 ⟨rfl, b6⟩
      have B6 := Lib.hid (below_on L5H.out.below b6)
      clear b6
      go_wp2
      go_ret
      exact ⟨rfl, B6.out⟩

#print axioms fills16_yes
end Go.Proofs.YtgdbaaoifnedbaaDoor
